/- Contracts of ChokeTurn, ChokeServed, ChokeGive and ChokeFade. Condition: the numbers lie in memory. -/
import Derived.Test.YtgmaegcnbebcnaaRanked
namespace Go.Proofs.Ytgmaegcnbebcnaa
open Go.RowKit
set_option linter.unusedVariables false

theorem turnZ_none {gs : List Int} (h : restN gs = []) (t : Nat) : turnZ gs t = -1 := by unfold turnZ; rw [if_pos h]
theorem turnZ_at {gs : List Int} (h : 0 < (restN gs).length) (t : Nat) : turnZ gs t = nth (numZ (restN gs)) (t % (restN gs).length) := by
  unfold turnZ
  rw [if_neg (fun e => by rw [e] at h; simp at h), nth_num]
theorem turnI_yes {gs : List Int} {t : Int} (h : okG gs = true) (k : okT t = true) : turnI gs t = turnZ gs t.toNat := by unfold turnI; rw [if_pos ⟨h, k⟩]
theorem turnI_no {gs : List Int} {t : Int} (h : ¬ (okG gs = true ∧ okT t = true)) : turnI gs t = -1 := by unfold turnI; rw [if_neg h]
theorem servedZ_yes {gs : List Int} {t : Int} (h : okG gs = true) (k : okT t = true) : servedZ gs t = numZ (servedN gs t.toNat) := by unfold servedZ; rw [if_pos ⟨h, k⟩]
theorem servedZ_no {gs : List Int} {t : Int} (h : ¬ (okG gs = true ∧ okT t = true)) : servedZ gs t = [] := by unfold servedZ; rw [if_neg h]

set_option maxHeartbeats 3000000 in
set_option maxRecDepth 100000 in
theorem turn_yes (A : Option Addr) (cap : Nat) (gs : List Int) (n t : Nat) (w : World) (hI : IntsAt w w.heap.size A gs) (hn : gs.length = n) (hG : okG gs = true) (hT : okT (t : Int) = true) :
    Calls Try.prog 14 #[.slice A n cap, .int .i64 (t : Int)] w fun e w' => e = .returned (.int .i64 (turnZ gs t)) ∧ Below w.heap.size w w' := by
  have h6 : n ≤ 6 := by rw [← hn]; exact (okG_iff.1 hG).1
  have ht : t ≤ 999 := by have := okT_iff.1 hT; omega
  have CV := giftsValid_any A cap gs w w.heap.size hI (by omega)
  have CT := turnValid_any (t : Int) w
  have CO := others_any A cap gs n w hI hn h6
  rw [hn, hG] at CV
  rw [hT] at CT
  have HV := Lib.hid CV
  have HT := Lib.hid CT
  have HO := Lib.hid CO
  clear CV CT CO hI hG hT
  go_enter Try.func14, Try.ntmps14
  go_wp2_with fail
  refine HV.out.mono ?_
  rintro e w1 ⟨rfl, rfl⟩
  go_wp2_with fail
  refine HT.out.mono ?_
  rintro e w1 ⟨rfl, rfl⟩
  go_wp2_with fail
  refine HO.out.mono ?_
  rintro e w1 ⟨A1, c1, rfl, ho, hb⟩
  have HO1 := Lib.hid ho
  have HB1 := Lib.hid hb
  clear ho hb HV HT HO
  obtain ⟨m, HM⟩ : ∃ m, Hid ((numZ (restN gs)).length = m) := ⟨_, rfl⟩
  rw [HM.out]
  by_cases hm : m = 0
  · subst hm
    have HE : Hid (turnZ gs t = -1) := turnZ_none (List.eq_nil_of_length_eq_zero (by rw [← numZ_length]; exact HM.out)) t
    go_wp2
    go_ret
    exact ⟨by rw [HE.out]; rfl, HB1.out⟩
  · have hm0 : 0 < m := by omega
    have hmz : ¬ (m : Int) = 0 := by omega
    have hmb : ((m : Int) == 0) = false := beq_eq_false_iff_ne.2 hmz
    have hr : t % m < m := Nat.mod_lt _ hm0
    have hrl : (restN gs).length = m := by rw [← numZ_length]; exact HM.out
    have HE : Hid (turnZ gs t = nth (numZ (restN gs)) (t % m)) := by have := turnZ_at (gs := gs) (by omega) t; rw [hrl] at this; exact this
    obtain ⟨b, o, rfl, _, hc⟩ := HO1.out.ints (by rw [HM.out]; omega)
    have hck := hc (t % m) (by rw [HM.out]; exact hr)
    obtain ⟨x, HX⟩ : ∃ x, Hid (nth (numZ (restN gs)) (t % m) = x) := ⟨_, rfl⟩
    rw [HX.out] at hck HE
    have hle : t % m ≤ t := Nat.mod_le t m
    have hrem : ((t : Int).tmod (m : Int)) = ((t % m : Nat) : Int) := by rw [Int.tmod_eq_emod_of_nonneg (by omega)]; first | exact (Int.natCast_mod t m).symm | rfl
    have hwr : IntKind.i64.wrap ((t % m : Nat) : Int) = ((t % m : Nat) : Int) := by rw [IntKind.wrap_i64]; omega
    have hrz : ((t % m : Nat) : Int) < (m : Int) := by omega
    clear hc
    go_wp2
    go_ret
    exact ⟨by rw [HE.out]; rfl, HB1.out⟩

set_option maxHeartbeats 2000000 in
set_option maxRecDepth 100000 in
theorem turn_no (A : Option Addr) (cap : Nat) (gs : List Int) (n : Nat) (t : Int) (w : World) (hI : IntsAt w w.heap.size A gs) (hn : gs.length = n) (hm : n ≤ 1048576) (hno : ¬ (okG gs = true ∧ okT t = true)) :
    Calls Try.prog 14 #[.slice A n cap, .int .i64 t] w fun e w' => e = .returned (.int .i64 (-1)) ∧ w' = w := by
  have CV := giftsValid_any A cap gs w w.heap.size hI (by omega)
  have CT := turnValid_any t w
  rw [hn] at CV
  cases hg : okG gs with
  | false =>
    rw [hg] at CV
    have HV := Lib.hid CV
    clear CV CT hI hg hno
    go_enter Try.func14, Try.ntmps14
    go_wp2_with fail
    refine HV.out.mono ?_
    rintro e w1 ⟨rfl, rfl⟩
    go_wp2
    go_ret
    exact ⟨rfl, rfl⟩
  | true =>
    have ht : okT t = false := by
      cases e : okT t with
      | false => rfl
      | true => exact absurd ⟨hg, e⟩ hno
    rw [hg] at CV
    rw [ht] at CT
    have HV := Lib.hid CV
    have HT := Lib.hid CT
    clear CV CT hI hg hno ht
    go_enter Try.func14, Try.ntmps14
    go_wp2_with fail
    refine HV.out.mono ?_
    rintro e w1 ⟨rfl, rfl⟩
    go_wp2_with fail
    refine HT.out.mono ?_
    rintro e w1 ⟨rfl, rfl⟩
    go_wp2
    go_ret
    exact ⟨rfl, rfl⟩
theorem chokeTurn_any (A : Option Addr) (cap : Nat) (gs : List Int) (n : Nat) (t : Int) (w : World) (hI : IntsAt w w.heap.size A gs) (hn : gs.length = n) (hm : n ≤ 1048576) :
    Calls Try.prog 14 #[.slice A n cap, .int .i64 t] w fun e w' => e = .returned (.int .i64 (turnI gs t)) ∧ Below w.heap.size w w' := by
  by_cases h : okG gs = true ∧ okT t = true
  · obtain ⟨q, rfl⟩ : ∃ q : Nat, t = (q : Int) := ⟨t.toNat, by have := okT_iff.1 h.2; omega⟩
    rw [turnI_yes h.1 h.2, Int.toNat_natCast]
    exact turn_yes A cap gs n q w hI hn h.1 h.2
  · rw [turnI_no h]
    exact (turn_no A cap gs n t w hI hn hm h).mono fun e w' ⟨he, hw⟩ => ⟨he, by rw [hw]; exact Below.refl _ _⟩

set_option maxHeartbeats 3000000 in
set_option maxRecDepth 100000 in
theorem served_yes (A : Option Addr) (cap : Nat) (gs : List Int) (n t : Nat) (w : World) (hI : IntsAt w w.heap.size A gs) (hn : gs.length = n) (hG : okG gs = true) (hT : okT (t : Int) = true) :
    Calls Try.prog 9 #[.slice A n cap, .int .i64 (t : Int)] w (RetInts w (numZ (servedN gs t))) := by
  have h6 : n ≤ 6 := by rw [← hn]; exact (okG_iff.1 hG).1
  have CV := giftsValid_any A cap gs w w.heap.size hI (by omega)
  have CT := turnValid_any (t : Int) w
  have CB := best_any A cap gs n w hI hn h6
  rw [hn, hG] at CV
  rw [hT] at CT
  have HI := Lib.hid hI
  have HN := Lib.hid hn
  have HG := Lib.hid hG
  have HTT := Lib.hid hT
  have HV := Lib.hid CV
  have HT := Lib.hid CT
  have HB0 := Lib.hid CB
  clear CV CT CB hI hG hT hn
  obtain ⟨w0, HW0⟩ : ∃ w0, Hid (w = w0) := ⟨_, rfl⟩
  go_enter Try.func9, Try.ntmps9
  go_wp2_with fail
  refine HV.out.mono ?_
  rintro e w1 ⟨rfl, hw1⟩
  cases hw1
  go_wp2_with fail
  refine HT.out.mono ?_
  rintro e w2 ⟨rfl, hw2⟩
  cases hw2
  go_wp2_with fail
  refine HB0.out.mono ?_
  rintro e w3 ⟨A1, c1, rfl, ho, hb⟩
  have HO1 := Lib.hid ho
  have HB1 := Lib.hid hb
  have HCT := Lib.hid (turn_yes A cap gs n t w3 (HI.out.belowS HB1.out) HN.out HG.out HTT.out)
  clear ho hb HV HT HB0
  have hbl : (numZ (bestN gs)).length ≤ 3 := by rw [numZ_length, best_length]; omega
  obtain ⟨m, HM⟩ : ∃ m, Hid ((numZ (bestN gs)).length = m) := ⟨_, rfl⟩
  rw [HM.out] at hbl ⊢
  go_wp2_with fail
  refine HCT.out.mono ?_
  rintro e w4 ⟨rfl, hb4⟩
  have HO4 := Lib.hid (HO1.out.below hb4)
  have HB4 := Lib.hid (HB1.out.trans (hb4.mono HB1.out.size))
  have hs4 := HB4.out.size
  clear hb4 HCT HO1 HB1
  by_cases h3 : n ≤ 3
  · have HE : Hid (turnZ gs t = -1) := turn_none (by rw [HN.out]; exact h3) t
    rw [HE.out]
    have CS := Lib.hid (sortInts_any _ c1 m A1 (numZ (bestN gs)) w4 HO4.out HM.out (by omega))
    go_wp2_with fail
    refine CS.out.mono ?_
    rintro e w5 ⟨rfl, ho5, hb5⟩
    have HO5 := Lib.hid ho5
    have HB5 := Lib.hid (HB4.out.trans hb5)
    have HA : Hid (ascZ (numZ (bestN gs)) = numZ (servedN gs t)) := sort_num (served_none (by rw [HN.out]; exact h3) t) (served_asc gs t)
    clear ho5 hb5 CS
    go_wp2
    go_ret
    refine ⟨A1, c1, ?_, by rw [← HA.out]; exact HO5.out, HB5.out⟩
    rw [← HA.out, ascZ_length, HM.out]
    rfl
  · obtain ⟨q, hq, -, hqm⟩ := turn_some (gs := gs) (by rw [HN.out]; omega) t
    have HA : Hid (ascZ (numZ (bestN gs ++ [q])) = numZ (servedN gs t)) := sort_num (served_some hq hqm) (served_asc gs t)
    rw [hq]
    have hq0 : (0 : Int) ≤ (q : Int) := by omega
    clear hq hqm
    go_wp2_with (at_builtin; (refine wpList_app_ints rfl (.tmp 23) (.tmp 25) rfl _ w.heap.size A1 c1 (numZ (bestN gs)) (by rw [HM.out]; rfl) _ _ [(q : Int)] rfl (HO4.out.alloc _) (one_new _ _) (by rw [HM.out]; simp; omega) (by simp; omega) (by simp) ?_; intro v w5 hA))
    obtain ⟨⟨A5, c5, rfl, ho5⟩, hg5, hb5⟩ := hA
    have hap : numZ (bestN gs) ++ [(q : Int)] = numZ (bestN gs ++ [q]) := by rw [numZ_append]; rfl
    rw [hap] at ho5
    have hlen : (numZ (bestN gs) ++ [(q : Int)]).length = m + 1 := by rw [List.length_append, HM.out]; rfl
    have hl5 : (numZ (bestN gs ++ [q])).length = m + 1 := by rw [← hap]; exact hlen
    have CS := Lib.hid (sortInts_any _ c5 (m + 1) A5 (numZ (bestN gs ++ [q])) w5 ho5 hl5 (by omega))
    have HB5 : Hid (Below w.heap.size w w5) := (HB4.out.alloc hs4 _).trans hb5
    have HL5 := Lib.hid hl5
    rw [hlen]
    clear ho5 hg5 hb5 hap hlen hl5
    go_wp2_with fail
    refine CS.out.mono ?_
    rintro e w6 ⟨rfl, ho6, hb6⟩
    have HO6 := Lib.hid ho6
    have HB6 := Lib.hid (HB5.out.trans hb6)
    clear ho6 hb6 CS
    go_wp2
    go_ret
    refine ⟨A5, c5, ?_, by rw [← HA.out]; exact HO6.out, HB6.out⟩
    rw [← HA.out, ascZ_length, HL5.out]
    rfl

set_option maxHeartbeats 2000000 in
set_option maxRecDepth 100000 in
theorem served_no (A : Option Addr) (cap : Nat) (gs : List Int) (n : Nat) (t : Int) (w : World) (hI : IntsAt w w.heap.size A gs) (hn : gs.length = n) (hm : n ≤ 1048576) (hno : ¬ (okG gs = true ∧ okT t = true)) :
    Calls Try.prog 9 #[.slice A n cap, .int .i64 t] w (RetInts w []) := by
  have CV := giftsValid_any A cap gs w w.heap.size hI (by omega)
  have CT := turnValid_any t w
  rw [hn] at CV
  cases hg : okG gs with
  | false =>
    rw [hg] at CV
    have HV := Lib.hid CV
    clear CV CT hI hg hno
    go_enter Try.func9, Try.ntmps9
    go_wp2_with fail
    refine HV.out.mono ?_
    rintro e w1 ⟨rfl, hw⟩
    subst hw
    go_wp2
    go_ret
    exact ⟨_, 0, rfl, OwnInts.new _, (Below.refl _ _).alloc (Nat.le_refl _) _⟩
  | true =>
    have ht : okT t = false := by
      cases e : okT t with
      | false => rfl
      | true => exact absurd ⟨hg, e⟩ hno
    rw [hg] at CV
    rw [ht] at CT
    have HV := Lib.hid CV
    have HT := Lib.hid CT
    clear CV CT hI hg hno ht
    go_enter Try.func9, Try.ntmps9
    go_wp2_with fail
    refine HV.out.mono ?_
    rintro e w1 ⟨rfl, hw⟩
    subst hw
    go_wp2_with fail
    refine HT.out.mono ?_
    rintro e w1 ⟨rfl, hw⟩
    subst hw
    go_wp2
    go_ret
    exact ⟨_, 0, rfl, OwnInts.new _, (Below.refl _ _).alloc (Nat.le_refl _) _⟩
theorem chokeServed_any (A : Option Addr) (cap : Nat) (gs : List Int) (n : Nat) (t : Int) (w : World) (hI : IntsAt w w.heap.size A gs) (hn : gs.length = n) (hm : n ≤ 1048576) :
    Calls Try.prog 9 #[.slice A n cap, .int .i64 t] w (RetInts w (servedZ gs t)) := by
  by_cases h : okG gs = true ∧ okT t = true
  · obtain ⟨q, rfl⟩ : ∃ q : Nat, t = (q : Int) := ⟨t.toNat, by have := okT_iff.1 h.2; omega⟩
    rw [servedZ_yes h.1 h.2, Int.toNat_natCast]
    exact served_yes A cap gs n q w hI hn h.1 h.2
  · rw [servedZ_no h]
    exact served_no A cap gs n t w hI hn hm h

end Go.Proofs.Ytgmaegcnbebcnaa
