/- Contracts of ChokeGive and ChokeFade. Condition: the numbers lie in memory. -/
import Derived.Test.YtgmaegcnbebcnaaGifts
import Derived.Test.YtgmaegcnbebcnaaBaseA
import Derived.Test.YtgmaegcnbebcnaaBaseD
import Derived.Test.YtgmaegcnbebcnaaBaseC
import Derived.Lib.SliceRun
import Derived.Lib.Hide
namespace Go.Proofs.Ytgmaegcnbebcnaa
open Go.RowKit
set_option linter.unusedVariables false

theorem append_lenI (xs : List Int) (x : Int) : (xs ++ [x]).length = xs.length + 1 := by rw [List.length_append]; rfl

set_option maxHeartbeats 1000000 in
theorem cloneInts_any (A : Option Addr) (cap : Nat) (zs : List Int) (n : Nat) (w : World) (hI : IntsAt w w.heap.size A zs) (hn : zs.length = n) (h0 : 0 < n) (hm : n ≤ 1048576) :
    Calls Try.prog 29 #[.slice A n cap] w (RetInts w zs) := by
  obtain ⟨b, o, rfl, _, _⟩ := hI (by omega)
  have HI := Lib.hid hI
  have HN := Lib.hid hn
  have hnil : ∀ W, (binOp .eql 22 (.slice (some ⟨b, o, none⟩) n cap) (.slice none 0 0)).run Try.prog W = .ok (.bool false) W := fun W => Lib.run_eql_slice_nil W _ _ _ _ _ _ _ Try.underlying22
  clear hI hn
  go_enter Try.func29, Try.ntmps29
  go_wp2_with (at_builtin; (refine wpList_app_ints rfl (.tmp 5) (.tmp 6) rfl _ w.heap.size (some ⟨w.heap.size, 0, none⟩) 0 [] rfl _ _ zs (by rw [HN.out]; rfl) (OwnInts.new w) (HI.out.allocS _) (by rw [HN.out]; simp; omega) (by simp) (by simp) ?_; intro v w1 hA))
  obtain ⟨⟨A1, c1, rfl, ho⟩, _, hb⟩ := hA
  rw [List.nil_append] at ho ⊢
  have HO := Lib.hid ho
  have HB : Hid (Below w.heap.size w w1) := ((Below.refl _ _).alloc (Nat.le_refl _) _).trans hb
  clear ho hb
  go_wp2
  go_ret
  exact ⟨A1, c1, rfl, HO.out, HB.out⟩

/-- Numbers of the call's own, and whether. -/
def RetGive (w : World) (zs : List Int) (b : Bool) (e : Ending) (w' : World) : Prop :=
  ∃ A cap, e = .returned (.tuple #[.slice A zs.length cap, .bool b]) ∧ OwnInts w' w.heap.size A cap zs ∧ Below w.heap.size w w'
theorem peerB_iff {gs : List Int} {p : Int} : peerB gs p = true ↔ 0 ≤ p ∧ p < (gs.length : Int) := by unfold peerB; rw [Bool.and_eq_true, decide_eq_true_eq, decide_eq_true_eq]
theorem giveZ_no {gs : List Int} {p : Int} (h : ¬ (okG gs = true ∧ peerB gs p = true)) : giveZ gs p = [] := by unfold giveZ; rw [if_neg h]
theorem giveB_no {gs : List Int} {p : Int} (h : ¬ (okG gs = true ∧ peerB gs p = true)) : giveB gs p = false := by
  unfold giveB
  cases h1 : okG gs with
  | false => rfl
  | true =>
    cases h2 : peerB gs p with
    | false => rfl
    | true => exact absurd ⟨h1, h2⟩ h
theorem giveZ_full {gs : List Int} {p : Int} (h : okG gs = true) (k : peerB gs p = true) (hx : nth gs p.toNat = 99) : giveZ gs p = gs := by unfold giveZ; rw [if_pos ⟨h, k⟩, if_pos hx]
theorem giveB_full {gs : List Int} {p : Int} (hx : nth gs p.toNat = 99) : giveB gs p = false := by unfold giveB; rw [decide_eq_true hx]; simp
theorem giveZ_more {gs : List Int} {p : Int} (h : okG gs = true) (k : peerB gs p = true) (hx : ¬ nth gs p.toNat = 99) : giveZ gs p = gs.set p.toNat (nth gs p.toNat + 1) := by unfold giveZ; rw [if_pos ⟨h, k⟩, if_neg hx]
theorem giveB_more {gs : List Int} {p : Int} (h : okG gs = true) (k : peerB gs p = true) (hx : ¬ nth gs p.toNat = 99) : giveB gs p = true := by unfold giveB; rw [h, k, decide_eq_false hx]; rfl
theorem giveB_iff {gs : List Int} {p : Int} : giveB gs p = true ↔ okG gs = true ∧ peerB gs p = true ∧ nth gs p.toNat ≠ 99 := by
  unfold giveB; rw [Bool.and_eq_true, Bool.and_eq_true, Bool.not_eq_true', decide_eq_false_iff_not]

set_option maxHeartbeats 3000000 in
set_option maxRecDepth 100000 in
theorem give_no (A : Option Addr) (cap : Nat) (gs : List Int) (n : Nat) (p : Int) (w : World) (hI : IntsAt w w.heap.size A gs) (hn : gs.length = n) (hm : n ≤ 1048576) (hno : ¬ (okG gs = true ∧ peerB gs p = true)) :
    Calls Try.prog 16 #[.slice A n cap, .int .i64 p] w (RetGive w [] false) := by
  have CV := giftsValid_any A cap gs w w.heap.size hI (by omega)
  rw [hn] at CV
  cases hg : okG gs with
  | false =>
    rw [hg] at CV
    have HV := Lib.hid CV
    clear CV hI hg hno
    go_enter Try.func16, Try.ntmps16
    go_wp2_with fail
    refine HV.out.mono ?_
    rintro e w1 ⟨rfl, hw⟩
    cases hw
    go_wp2
    go_ret2
    exact ⟨_, 0, rfl, OwnInts.new _, (Below.refl _ _).alloc (Nat.le_refl _) _⟩
  | true =>
    rw [hg] at CV
    have HV := Lib.hid CV
    have hp : ¬ (0 ≤ p ∧ p < (n : Int)) := fun h => hno ⟨hg, peerB_iff.2 (by rw [hn]; exact h)⟩
    clear CV hI hg hno
    by_cases h0 : p < 0
    · clear hp
      go_enter Try.func16, Try.ntmps16
      go_wp2_with fail
      refine HV.out.mono ?_
      rintro e w1 ⟨rfl, hw⟩
      cases hw
      go_wp2
      go_ret2
      exact ⟨_, 0, rfl, OwnInts.new _, (Below.refl _ _).alloc (Nat.le_refl _) _⟩
    · have h1 : (n : Int) ≤ p := by omega
      clear hp
      go_enter Try.func16, Try.ntmps16
      go_wp2_with fail
      refine HV.out.mono ?_
      rintro e w1 ⟨rfl, hw⟩
      cases hw
      go_wp2
      go_ret2
      exact ⟨_, 0, rfl, OwnInts.new _, (Below.refl _ _).alloc (Nat.le_refl _) _⟩

set_option maxHeartbeats 3000000 in
set_option maxRecDepth 100000 in
theorem give_yes (A : Option Addr) (cap : Nat) (gs : List Int) (n q : Nat) (w : World) (hI : IntsAt w w.heap.size A gs) (hn : gs.length = n) (hG : okG gs = true) (hq : q < n) (zs : List Int) (ok : Bool) (hF : nth gs q = 99 → zs = gs ∧ ok = false) (hM : ¬ nth gs q = 99 → zs = gs.set q (nth gs q + 1) ∧ ok = true) :
    Calls Try.prog 16 #[.slice A n cap, .int .i64 (q : Int)] w (RetGive w zs ok) := by
  have h6 : n ≤ 6 := by rw [← hn]; exact (okG_iff.1 hG).1
  have hx99 := okG_nth hG q
  have CV := giftsValid_any A cap gs w w.heap.size hI (by omega)
  have CC := cloneInts_any A cap gs n w hI hn (by omega) (by omega)
  rw [hn, hG] at CV
  have HN := Lib.hid hn
  have HV := Lib.hid CV
  have HC := Lib.hid CC
  have hq0 : ¬ (q : Int) < 0 := by omega
  have hq1 : ¬ (n : Int) ≤ (q : Int) := by omega
  have hq2 : (q : Int) < (n : Int) := by omega
  clear CV CC hI hG hn
  obtain ⟨x, HX⟩ : ∃ x, Hid (nth gs q = x) := ⟨_, rfl⟩
  rw [HX.out] at hx99
  have HF : Hid (x = 99 → zs = gs ∧ ok = false) := by rw [← HX.out]; exact hF
  have HM : Hid (¬ x = 99 → zs = gs.set q (x + 1) ∧ ok = true) := by rw [← HX.out]; exact hM
  clear hF hM
  go_enter Try.func16, Try.ntmps16
  go_wp2_with fail
  refine HV.out.mono ?_
  rintro e w1 ⟨rfl, hw⟩
  cases hw
  go_wp2_with fail
  refine HC.out.mono ?_
  rintro e w2 ⟨A2, c2, rfl, ho, hb⟩
  have HO := Lib.hid ho
  have HB := Lib.hid hb
  clear ho hb HV HC
  obtain ⟨b, rfl⟩ := HO.out.some_ (by rw [HN.out]; omega)
  obtain ⟨hcx, hfx⟩ := own_cell HO.out q (by rw [HN.out]; exact hq)
  have hbl : w.heap.size ≤ b := (World.ownsRow.lt HO.out b rfl).1
  rw [HX.out] at hcx
  rw [HN.out]
  by_cases h99 : x = 99
  · obtain ⟨rfl, rfl⟩ := HF.out h99
    subst h99
    clear HF HM
    go_wp2
    go_ret2
    exact ⟨some ⟨b, 0, none⟩, c2, by rw [HN.out]; rfl, HO.out, HB.out⟩
  · have hxb : (x == 99) = false := beq_eq_false_iff_ne.2 h99
    have hwx : IntKind.i64.wrap (x + 1) = x + 1 := by rw [IntKind.wrap_i64]; omega
    go_wp2
    go_ret2
    obtain ⟨rfl, rfl⟩ := HM.out h99
    exact ⟨some ⟨b, 0, none⟩, c2, by rw [List.length_set, HN.out]; rfl, HO.out.stored q (x + 1), HB.out.setCell (p := ⟨b, q, none⟩) hbl _⟩
theorem chokeGive_any (A : Option Addr) (cap : Nat) (gs : List Int) (n : Nat) (p : Int) (w : World) (hI : IntsAt w w.heap.size A gs) (hn : gs.length = n) (hm : n ≤ 1048576) :
    Calls Try.prog 16 #[.slice A n cap, .int .i64 p] w (RetGive w (giveZ gs p) (giveB gs p)) := by
  by_cases h : okG gs = true ∧ peerB gs p = true
  · have hp := peerB_iff.1 h.2
    obtain ⟨q, rfl⟩ : ∃ q : Nat, p = (q : Int) := ⟨p.toNat, by omega⟩
    refine give_yes A cap gs n q w hI hn h.1 (by omega) _ _ (fun hx => ?_) (fun hx => ?_)
    · exact ⟨giveZ_full h.1 h.2 (by rw [Int.toNat_natCast]; exact hx), giveB_full (by rw [Int.toNat_natCast]; exact hx)⟩
    · have e := giveZ_more h.1 h.2 (by rw [Int.toNat_natCast]; exact hx)
      rw [Int.toNat_natCast] at e
      exact ⟨e, giveB_more h.1 h.2 (by rw [Int.toNat_natCast]; exact hx)⟩
  · rw [giveZ_no h, giveB_no h]
    exact give_no A cap gs n p w hI hn hm h

def halfZ (gs : List Int) : List Int := gs.map (· / 2)
theorem halfZ_length (gs : List Int) : (halfZ gs).length = gs.length := List.length_map _
theorem half_step (gs : List Int) (k : Nat) (hk : k < gs.length) : halfZ (gs.take (k + 1)) = halfZ (gs.take k) ++ [nth gs k / 2] := by
  have ht : gs.take (k + 1) = gs.take k ++ [nth gs k] := by
    rw [List.take_succ_eq_append_getElem hk, nth, List.getD_eq_getElem?_getD, List.getElem?_eq_getElem hk]; rfl
  rw [ht]; unfold halfZ; rw [List.map_append]; rfl

set_option maxHeartbeats 3000000 in
set_option maxRecDepth 100000 in
theorem chokeFade_any (A : Option Addr) (cap : Nat) (gs : List Int) (n : Nat) (w : World) (hI : IntsAt w w.heap.size A gs) (hn : gs.length = n) (hm : n ≤ 1048576) :
    Calls Try.prog 18 #[.slice A n cap] w (RetInts w (fadeZ gs)) := by
  have CV := giftsValid_any A cap gs _ w.heap.size (hI.alloc (Nat.le_refl _) (.cells #[] 3)) (by omega)
  rw [hn] at CV
  cases hg : okG gs with
  | false =>
    have HE : Hid (fadeZ gs = []) := by show _ = _; unfold fadeZ; rw [hg]; rfl
    rw [hg] at CV
    have HV := Lib.hid CV
    clear CV hI hg
    go_enter Try.func18, Try.ntmps18
    go_wp2_with fail
    refine HV.out.mono ?_
    rintro e w1 ⟨rfl, hw⟩
    cases hw
    go_wp2
    go_ret
    exact ⟨some ⟨w.heap.size, 0, none⟩, 0, by rw [HE.out]; rfl, by rw [HE.out]; exact OwnInts.new w, (Below.refl _ _).alloc (Nat.le_refl _) _⟩
  | true =>
    have h6 : n ≤ 6 := by rw [← hn]; exact (okG_iff.1 hg).1
    have HE : Hid (fadeZ gs = halfZ gs) := by show _ = _; unfold fadeZ; rw [hg]; rfl
    have HG : Hid (∀ k, 0 ≤ nth gs k ∧ nth gs k ≤ 99) := okG_nth hg
    rw [hg] at CV
    have HV := Lib.hid CV
    have HI := Lib.hid hI
    have HN := Lib.hid hn
    clear CV hI hg hn
    go_enter Try.func18, Try.ntmps18
    go_wp2_with fail
    refine HV.out.mono ?_
    rintro e w1 ⟨rfl, hw⟩
    have HW := Lib.hid hw
    clear hw
    have HO0 : Hid (OwnInts w1 w.heap.size (some ⟨w.heap.size, 0, none⟩) 0 (halfZ (gs.take 0))) := by rw [HW.out]; exact OwnInts.new w
    have HB0 : Hid (Below w.heap.size w w1) := by rw [HW.out]; exact (Below.refl _ _).alloc (Nat.le_refl _) _
    go_wp2
    go_loopw [3, 5, 13] (fun p _ i wr => ∃ (k : Nat) (X : Option Addr) (c : Nat), k ≤ n ∧ i = .int .i64 k ∧ p = .slice X k c ∧ Hid (OwnInts wr w.heap.size X c (halfZ (gs.take k))) ∧ Hid (Below w.heap.size w wr)) (fun _ _ i _ => n - (intOf i).toNat)
    case atStart => exact ⟨0, _, 0, Nat.zero_le _, rfl, rfl, HO0, HB0⟩
    case round =>
      obtain ⟨k, X, c, hk, rfl, rfl, HO, HB⟩ := hrel
      have hsz := HB.out.size
      by_cases hlt : k < n
      · have hkz : k < gs.length := by rw [HN.out]; exact hlt
        obtain ⟨b, o, rfl, hb, hc⟩ := (HI.out.below HB.out (Nat.le_refl _)) (by omega)
        have hck := hc k hkz
        clear hc
        have hki : (k : Int) < (n : Int) := by omega
        have hk0 : (0 : Int) ≤ (k : Int) := by omega
        have hx := HG.out k
        have hst := half_step gs k hkz
        obtain ⟨x, HX⟩ : ∃ x, Hid (nth gs k = x) := ⟨_, rfl⟩
        rw [HX.out] at hck hx hst
        have hdv : x.tdiv 2 = x / 2 := Int.tdiv_eq_ediv_of_nonneg hx.1
        have hwd : IntKind.i64.wrap (x / 2) = x / 2 := by rw [IntKind.wrap_i64]; omega
        have HS := Lib.hid hst
        have HL : Hid ((halfZ (gs.take k)).length = k) := by show _ = _; rw [halfZ_length, List.length_take]; omega
        have HL1 : Hid ((halfZ (gs.take (k + 1))).length = k + 1) := by show _ = _; rw [halfZ_length, List.length_take]; omega
        clear hkz hst hb
        go_wp2_with (at_builtin; refine wpList_app_ints rfl (.tmp 17) (.tmp 20) rfl _ w.heap.size X c (halfZ (gs.take k)) (by rw [HL.out]; rfl) _ _ [x / 2] rfl (HO.out.alloc _) (one_new _ _) (by rw [HL.out]; simp; omega) (by simp; omega) (by simp) ?_; intro v w5 hA)
        obtain ⟨⟨A5, c5, rfl, ho5⟩, hg5, hb5⟩ := hA
        rw [← HS.out] at ho5 ⊢
        have HO5 := Lib.hid ho5
        have HB5 : Hid (Below w.heap.size w w5) := (HB.out.alloc hsz _).trans hb5
        rw [HL1.out]
        clear ho5 hg5 hb5
        go_wp2
        go_roundw
        case rel => exact ⟨k + 1, A5, c5, by omega, by go_num, rfl, HO5, HB5⟩
        case measure => simp [intOf]; omega
      · have hkn : k = n := by omega
        subst hkn
        have HT : Hid (OwnInts wr w.heap.size X c (halfZ gs)) := by
          have h := HO.out
          rw [List.take_of_length_le (by rw [HN.out]; omega)] at h
          exact h
        go_wp2
        go_ret
        exact ⟨X, c, by rw [HE.out, halfZ_length, HN.out]; rfl, by rw [HE.out]; exact HT.out, HB.out⟩

end Go.Proofs.Ytgmaegcnbebcnaa
