/- Contracts of the model's ChokeTurn, ChokeServed, ChokeGive and ChokeFade. Condition: the numbers lie in memory. -/
import Derived.Test.YtgmaegcnbebcnaaSChoke
import Derived.Test.YtgmaegcnbebcnaaChokeGive
import Derived.Test.YtgmaegcnbebcnaaBaseC
namespace Go.Proofs.Ytgmaegcnbebcnaa
open Go.RowKit
set_option linter.unusedVariables false

/-- An integer is put to a row of the call's own: where the new row lies. -/
structure OneAdd (W : World) (base : Nat) (A : Option Addr) (ds : List Int) (z : Int) (v : Value) (w' : World) : Prop where
  own : ∃ g c', v = .slice (some ⟨g, 0, none⟩) (ds.length + 1) c' ∧ OwnInts w' base (some ⟨g, 0, none⟩) c' (ds ++ [z]) ∧ (A = some ⟨g, 0, none⟩ ∨ g = W.heap.size)
  grown : ∀ b, A = some ⟨b, 0, none⟩ → W.grownBy w' (some b)
  below : Below base W w'

theorem wpList_one_add {ops : Array Oper} {rest : List Oper} {o : Oper} {a : Act} {Q : Exit → Act → World → Prop} (hgd : o.guard = none) (s x : Operand) (ho : o.op = .call { callee := .builtin .append, args := #[s, x], argTypes := #[22, 22] })
    (W : World) (base : Nat) (g0 c : Nat) (ds : List Int) (hs : a.eval s = .slice (some ⟨g0, 0, none⟩) ds.length c) (B : Option Addr) (bc : Nat) (z : Int) (hx : a.eval x = .slice B 1 bc)
    (hown : OwnInts W base (some ⟨g0, 0, none⟩) c ds) (hI : IntsAt W W.heap.size B [z]) (hl : ds.length ≤ 2000000) (hbase : base ≤ W.heap.size)
    (h : ∀ v w', OneAdd W base (some ⟨g0, 0, none⟩) ds z v w' → wpList Try.prog ops Q rest (a.put o.dst v) w') : wpList Try.prog ops Q (o :: rest) a W := by
  obtain ⟨i0, hi0, hz0, hz1, hz2⟩ := info_parts int_info
  obtain ⟨b, ob, rfl, hb, hc⟩ := hI (by simp)
  have hcells : ∀ j u, (vals [z])[j]? = some u → W.cell? ((⟨b, ob, none⟩ : Addr).add j) = some u := by
    intro j u hu
    have hj : j < 1 := by
      have := (List.getElem?_eq_some_iff.1 hu).1
      simpa [vals] using this
    rw [vals_get [z] j (by simpa using hj)] at hu
    rw [Addr.add_lit, ← hu]
    exact hc j (by simpa using hj)
  refine wpList_append_own_at (P := Try.prog) W hgd s x 22 ho base 3 i0 _ 1 8 Try.underlying22 hi0 hz0 hz1 hz2 rfl (by omega) _ ds.length (vals ds) hs hown ⟨b, ob, none⟩ 1 bc (vals [z]) hx (by simp [vals]) hcells (vals_one [z]) (by unfold maxLen; omega) (by omega) hbase ?_
  intro v' w' h2 h3 _ h5
  refine h v' w' ⟨?_, ?_, (Below.refl _ _).grown h3 hbase (fun k hk => hown.far (n := ds.length) k hk)⟩
  · rw [← vals_append] at h2
    rcases h2.2 with ⟨hv, hn⟩ | ⟨g, cap, cur, hv, hr⟩
    · omega
    · refine ⟨g, cap, hv, ?_, ?_⟩
      · unfold OwnInts; rw [List.length_append]; rw [hv] at h2; exact h2
      · rw [hv] at h5
        simp only [Value.ownBlock, Option.some.injEq] at h5
        rcases h5 with e | e
        · left; rw [e]
        · right; exact e
  · intro b' e
    injection e with e
    injection e with e _ _
    subst e
    exact h3
theorem ints_block {w w' : World} {B : Nat} {A : Option Addr} {zs : List Int} (h : IntsAt w B A zs) (hk : ∀ b o, A = some ⟨b, o, none⟩ → w'.heap[b]? = w.heap[b]?) : IntsAt w' B A zs := fun hn => by
  obtain ⟨b, o, e, hb, hc⟩ := h hn
  exact ⟨b, o, e, hb, fun k hk' => (World.cell?_of_block (w := w) (w' := w') (hk b o e)).trans (hc k hk')⟩

/-- Those of the first k peers with P, in order. -/
def upBy (P : Nat → Bool) (k : Nat) : List Nat := (List.range k).filter P
theorem upBy_step (P : Nat → Bool) (k : Nat) : upBy P (k + 1) = if P k = true then upBy P k ++ [k] else upBy P k := by
  unfold upBy
  rw [List.range_succ, List.filter_append]
  by_cases h : P k = true
  · rw [if_pos h, List.filter_cons_of_pos h]; rfl
  · rw [if_neg h, List.filter_cons_of_neg h]; simp
theorem upBy_length (P : Nat → Bool) (k : Nat) : (upBy P k).length ≤ k := by
  have := List.length_filter_le P (List.range k)
  rwa [List.length_range] at this
def lateB (gs : List Int) (i : Nat) : Bool := decide (3 ≤ aheadN gs i)
def servedB (gs : List Int) (t i : Nat) : Bool := decide (aheadN gs i < 3 ∨ (i : Int) = turnZ gs t)
theorem upBy_late (gs : List Int) : upBy (lateB gs) gs.length = restN gs := rfl
theorem upBy_served (gs : List Int) (t : Nat) : upBy (servedB gs t) gs.length = servedN gs t := rfl
theorem late_has {gs : List Int} {i : Nat} (hi : i < gs.length) : decide ((i : Int) ∈ numZ (bestN gs)) = !lateB gs i := by
  unfold lateB
  rw [show decide ((i : Int) ∈ numZ (bestN gs)) = decide (aheadN gs i < 3) by
    rw [decide_eq_decide, mem_num, mem_bestN]
    exact ⟨fun h => h.2, fun h => ⟨hi, h⟩⟩]
  by_cases h : aheadN gs i < 3
  · rw [decide_eq_true h, decide_eq_false (by omega)]; rfl
  · rw [decide_eq_false h, decide_eq_true (by omega)]; rfl
theorem served_has {gs : List Int} {t i : Nat} (hi : i < gs.length) : decide ((i : Int) ∈ numZ (bestN gs) ++ [turnZ gs t]) = servedB gs t i := by
  unfold servedB
  rw [decide_eq_decide, List.mem_append, mem_num, mem_bestN, List.mem_singleton]
  constructor
  · rintro (h | h)
    · exact .inl h.2
    · exact .inr h
  · rintro (h | h)
    · exact .inl ⟨hi, h⟩
    · exact .inr h
theorem turnZ_none' {gs : List Int} (h : restN gs = []) (t : Nat) : turnZ gs t = -1 := by unfold turnZ; rw [if_pos h]
theorem turnZ_at' {gs : List Int} (h : 0 < (restN gs).length) (t : Nat) : turnZ gs t = nth (numZ (restN gs)) (t % (restN gs).length) := by
  unfold turnZ
  rw [if_neg (fun e => by rw [e] at h; simp at h), nth_num]

set_option maxHeartbeats 4000000 in
set_option maxRecDepth 100000 in
theorem sturn_any (A : Option Addr) (cap : Nat) (gs : List Int) (n t : Nat) (w : World) (hI : IntsAt w w.heap.size A gs) (hn : gs.length = n) (hm : n ≤ 6) (ht : t ≤ 999) :
    Calls Try.prog 22 #[.slice A n cap, .int .i64 (t : Int)] w fun e w' => e = .returned (.int .i64 (turnZ gs t)) ∧ Below w.heap.size w w' := by
  have CB := Lib.hid (sbest_any A cap gs n w hI hn hm)
  have HN := Lib.hid hn
  clear hI hn
  go_enter Try.func22, Try.ntmps22
  go_wp2_with fail
  refine CB.out.mono ?_
  rintro e w1 ⟨B, bc, rfl, ho, hb⟩
  have hz1 : w.heap.size ≤ w1.heap.size := hb.size
  have HBI : Hid (IntsAt w1 w1.heap.size B (numZ (bestN gs))) := ho.ints
  have HB1 := Lib.hid hb
  have hbl : (numZ (bestN gs)).length ≤ 3 := by rw [numZ_length, best_length]; omega
  obtain ⟨bl, HBL⟩ : ∃ bl, Hid ((numZ (bestN gs)).length = bl) := ⟨_, rfl⟩
  rw [HBL.out] at hbl ⊢
  clear ho hb CB
  go_wp2
  go_loopw [6, 7] (fun p i wr => ∃ (k m : Nat) (X : Option Addr) (c : Nat), k ≤ n ∧ m ≤ k ∧ i = .int .i64 (k : Int) ∧ p = .slice X m c ∧ Hid ((numZ (upBy (lateB gs) k)).length = m) ∧ Hid (OwnInts wr w1.heap.size X c (numZ (upBy (lateB gs) k))) ∧ Hid (Below w1.heap.size w1 wr)) (fun _ i _ => n - (intOf i).toNat)
  case atStart => exact ⟨0, 0, _, 0, Nat.zero_le _, Nat.le_refl _, rfl, rfl, (rfl : (0 : Nat) = 0), OwnInts.new w1, (Below.refl _ _).alloc (Nat.le_refl _) _⟩
  case round =>
    obtain ⟨k, m, X, c, hk, hmk, rfl, rfl, HL, HO, HB⟩ := hrel
    have hsz := HB.out.size
    by_cases hlt : k < n
    · have hki : (k : Int) < (n : Int) := by omega
      have CH := hasS_any B bc (numZ (bestN gs)) (k : Int) wr (HBI.out.belowS HB.out) (by rw [HBL.out]; unfold maxLen; omega)
      rw [HBL.out, late_has (by rw [HN.out]; exact hlt)] at CH
      have hst := upBy_step (lateB gs) k
      obtain ⟨b, HBB⟩ : ∃ b, Hid (lateB gs k = b) := ⟨_, rfl⟩
      rw [HBB.out] at CH hst
      have HC := Lib.hid CH
      clear CH
      cases b with
      | false =>
        rw [if_neg (by decide)] at hst
        have HS := Lib.hid hst
        clear hst
        go_wp2_with fail
        refine HC.out.mono ?_
        rintro e w2 ⟨rfl, hw2⟩
        cases hw2
        go_wp2
        go_roundw
        case rel => exact ⟨k + 1, m, X, c, by omega, by omega, by go_num, rfl, by rw [HS.out]; exact HL, by rw [HS.out]; exact HO, HB⟩
        case measure => simp [intOf]; omega
      | true =>
        rw [if_pos rfl] at hst
        have HS : Hid (numZ (upBy (lateB gs) (k + 1)) = numZ (upBy (lateB gs) k) ++ [(k : Int)]) := by show _ = _; rw [hst, numZ_append]; rfl
        have HL1 : Hid ((numZ (upBy (lateB gs) (k + 1))).length = m + 1) := by show _ = _; rw [HS.out, List.length_append, HL.out]; rfl
        clear hst
        go_wp2_with fail
        refine HC.out.mono ?_
        rintro e w2 ⟨rfl, hw2⟩
        cases hw2
        go_wp2_with (at_builtin; refine wpList_app_ints rfl (.tmp 21) (.tmp 23) rfl _ w1.heap.size X c (numZ (upBy (lateB gs) k)) (by rw [HL.out]; rfl) _ _ [(k : Int)] rfl (HO.out.alloc _) (one_new _ _) (by rw [HL.out]; simp; omega) (by simp; omega) (by simp) ?_; intro v w5 hA)
        obtain ⟨⟨A5, c5, rfl, ho5⟩, hg5, hb5⟩ := hA
        rw [← HS.out] at ho5 ⊢
        have HO5 := Lib.hid ho5
        have HB5 : Hid (Below w1.heap.size w1 w5) := (HB.out.alloc hsz _).trans hb5
        rw [HL1.out]
        clear ho5 hg5 hb5
        go_wp2
        go_roundw
        case rel => exact ⟨k + 1, m + 1, A5, c5, by omega, by omega, by go_num, rfl, HL1, HO5, HB5⟩
        case measure => simp [intOf]; omega
    · have hkn : k = n := by omega
      subst hkn
      have HE : Hid (upBy (lateB gs) k = restN gs) := by show _ = _; rw [← upBy_late, HN.out]
      rw [HE.out] at HL HO
      have HB2 : Hid (Below w.heap.size w wr) := HB1.out.trans (HB.out.mono hz1)
      by_cases hm0 : m = 0
      · subst hm0
        have HT : Hid (turnZ gs t = -1) := turnZ_none' (List.eq_nil_of_length_eq_zero (by rw [← numZ_length]; exact HL.out)) t
        go_wp2
        go_ret
        exact ⟨by rw [HT.out]; rfl, HB2.out⟩
      · have hmp : 0 < m := by omega
        have hmz : ¬ (m : Int) = 0 := by omega
        have hmb : ((m : Int) == 0) = false := beq_eq_false_iff_ne.2 hmz
        have hr : t % m < m := Nat.mod_lt _ hmp
        have hrl : (restN gs).length = m := by rw [← numZ_length]; exact HL.out
        have HT : Hid (turnZ gs t = nth (numZ (restN gs)) (t % m)) := by have := turnZ_at' (gs := gs) (by omega) t; rw [hrl] at this; exact this
        obtain ⟨b, o, rfl, _, hc⟩ := HO.out.ints (by rw [HL.out]; omega)
        have hck := hc (t % m) (by rw [HL.out]; exact hr)
        obtain ⟨x, HX⟩ : ∃ x, Hid (nth (numZ (restN gs)) (t % m) = x) := ⟨_, rfl⟩
        rw [HX.out] at hck HT
        have hle : t % m ≤ t := Nat.mod_le t m
        have hrem : ((t : Int).tmod (m : Int)) = ((t % m : Nat) : Int) := by rw [Int.tmod_eq_emod_of_nonneg (by omega)]; first | exact (Int.natCast_mod t m).symm | rfl
        have hwr : IntKind.i64.wrap ((t % m : Nat) : Int) = ((t % m : Nat) : Int) := by rw [IntKind.wrap_i64]; omega
        have hrz : ((t % m : Nat) : Int) < (m : Int) := by omega
        clear hc
        go_wp2
        go_ret
        exact ⟨by rw [HT.out]; rfl, HB2.out⟩

theorem turnI_yes' {gs : List Int} {t : Int} (h : okG gs = true) (k : okT t = true) : turnI gs t = turnZ gs t.toNat := by unfold turnI; rw [if_pos ⟨h, k⟩]
theorem turnI_no' {gs : List Int} {t : Int} (h : ¬ (okG gs = true ∧ okT t = true)) : turnI gs t = -1 := by unfold turnI; rw [if_neg h]
theorem servedZ_yes' {gs : List Int} {t : Int} (h : okG gs = true) (k : okT t = true) : servedZ gs t = numZ (servedN gs t.toNat) := by unfold servedZ; rw [if_pos ⟨h, k⟩]
theorem servedZ_no' {gs : List Int} {t : Int} (h : ¬ (okG gs = true ∧ okT t = true)) : servedZ gs t = [] := by unfold servedZ; rw [if_neg h]

set_option maxHeartbeats 2000000 in
set_option maxRecDepth 100000 in
theorem schokeTurn_any (A : Option Addr) (cap : Nat) (gs : List Int) (n : Nat) (t : Int) (w : World) (hI : IntsAt w w.heap.size A gs) (hn : gs.length = n) (hm : n ≤ 1048576) :
    Calls Try.prog 13 #[.slice A n cap, .int .i64 t] w fun e w' => e = .returned (.int .i64 (turnI gs t)) ∧ Below w.heap.size w w' := by
  have CV := sgiven_any A cap gs n w w.heap.size hI hn hm
  have CT : Calls Try.prog 20 #[.int .i64 t, .int .i64 0, .int .i64 999] w fun e w' => e = .returned (.bool (okT t)) ∧ w' = w := l6in_any t 0 999 w
  cases hg : okG gs with
  | false =>
    have HE : Hid (turnI gs t = -1) := turnI_no' (fun h => by rw [hg] at h; cases h.1)
    rw [hg] at CV
    have HV := Lib.hid CV
    clear CV CT hI hg
    go_enter Try.func13, Try.ntmps13
    go_wp2_with fail
    refine HV.out.mono ?_
    rintro e w1 ⟨rfl, hw⟩
    cases hw
    go_wp2
    go_ret
    exact ⟨by rw [HE.out]; rfl, Below.refl _ _⟩
  | true =>
    cases htt : okT t with
    | false =>
      have HE : Hid (turnI gs t = -1) := turnI_no' (fun h => by rw [htt] at h; cases h.2)
      rw [hg] at CV
      rw [htt] at CT
      have HV := Lib.hid CV
      have HT := Lib.hid CT
      clear CV CT hI hg htt
      go_enter Try.func13, Try.ntmps13
      go_wp2_with fail
      refine HV.out.mono ?_
      rintro e w1 ⟨rfl, hw⟩
      cases hw
      go_wp2_with fail
      refine HT.out.mono ?_
      rintro e w1 ⟨rfl, hw⟩
      cases hw
      go_wp2
      go_ret
      exact ⟨by rw [HE.out]; rfl, Below.refl _ _⟩
    | true =>
      have ho := okT_iff.1 htt
      obtain ⟨q, rfl⟩ : ∃ q : Nat, t = (q : Int) := ⟨t.toNat, by omega⟩
      have HE : Hid (turnI gs (q : Int) = turnZ gs q) := by have := turnI_yes' hg htt; rwa [Int.toNat_natCast] at this
      have HS := Lib.hid (sturn_any A cap gs n q w hI hn (by rw [← hn]; exact (okG_iff.1 hg).1) (by omega))
      rw [hg] at CV
      rw [htt] at CT
      have HV := Lib.hid CV
      have HT := Lib.hid CT
      clear CV CT hI hg htt
      go_enter Try.func13, Try.ntmps13
      go_wp2_with fail
      refine HV.out.mono ?_
      rintro e w1 ⟨rfl, hw⟩
      cases hw
      go_wp2_with fail
      refine HT.out.mono ?_
      rintro e w1 ⟨rfl, hw⟩
      cases hw
      go_wp2_with fail
      refine HS.out.mono ?_
      rintro e w3 ⟨rfl, hb⟩
      have HB := Lib.hid hb
      clear hb HV HT HS
      go_wp2
      go_ret
      exact ⟨by rw [HE.out]; rfl, HB.out⟩

set_option maxHeartbeats 4000000 in
set_option maxRecDepth 100000 in
theorem sserved_yes (A : Option Addr) (cap : Nat) (gs : List Int) (n t : Nat) (w : World) (hI : IntsAt w w.heap.size A gs) (hn : gs.length = n) (hG : okG gs = true) (hT : okT (t : Int) = true) :
    Calls Try.prog 7 #[.slice A n cap, .int .i64 (t : Int)] w (RetInts w (numZ (servedN gs t))) := by
  have h6 : n ≤ 6 := by rw [← hn]; exact (okG_iff.1 hG).1
  have ht := okT_iff.1 hT
  obtain ⟨W, HW⟩ : ∃ W, Hid (w.alloc (.cells #[] 3) = W) := ⟨_, rfl⟩
  have hIW : IntsAt W W.heap.size A gs := by rw [← HW.out]; exact hI.allocS _
  have HO0 : Hid (OwnInts W w.heap.size (some ⟨w.heap.size, 0, none⟩) 0 []) := by rw [← HW.out]; exact OwnInts.new w
  have HBW : Hid (Below w.heap.size w W) := by rw [← HW.out]; exact (Below.refl _ _).alloc (Nat.le_refl _) _
  have CV := sgiven_any A cap gs n W W.heap.size hIW hn (by omega)
  have CT : Calls Try.prog 20 #[.int .i64 (t : Int), .int .i64 0, .int .i64 999] W fun e w' => e = .returned (.bool (okT (t : Int))) ∧ w' = W := l6in_any (t : Int) 0 999 W
  have CB := sbest_any A cap gs n W hIW hn h6
  rw [hG] at CV
  rw [hT] at CT
  have HI := Lib.hid hIW
  have HN := Lib.hid hn
  have HV := Lib.hid CV
  have HTT := Lib.hid CT
  have HCB := Lib.hid CB
  have ht9 : t ≤ 999 := by omega
  clear CV CT CB hI hIW hG hT hn ht
  go_enter Try.func7, Try.ntmps7
  go_wp2_with fail
  rw [HW.out]
  refine HV.out.mono ?_
  rintro e w1 ⟨rfl, hw⟩
  cases hw
  go_wp2_with fail
  refine HTT.out.mono ?_
  rintro e w1 ⟨rfl, hw⟩
  cases hw
  go_wp2_with fail
  refine HCB.out.mono ?_
  rintro e w2 ⟨B, bc, rfl, ho2, hb2⟩
  have HO2 := Lib.hid ho2
  have HB2 := Lib.hid hb2
  have HS2 := Lib.hid (sturn_any A cap gs n t w2 (HI.out.belowS hb2) HN.out h6 ht9)
  have hbl : (numZ (bestN gs)).length ≤ 3 := by rw [numZ_length, best_length]; omega
  obtain ⟨bl, HBL⟩ : ∃ bl, Hid ((numZ (bestN gs)).length = bl) := ⟨_, rfl⟩
  rw [HBL.out] at hbl ⊢
  clear ho2 hb2 HV HTT HCB
  go_wp2_with fail
  refine HS2.out.mono ?_
  rintro e w3 ⟨rfl, hb3⟩
  have HO3 := Lib.hid (HO2.out.below hb3)
  have HB3 := Lib.hid (HB2.out.trans (hb3.mono HB2.out.size))
  have hs3 := HB3.out.size
  obtain ⟨tz, HTZ⟩ : ∃ tz, Hid (turnZ gs t = tz) := ⟨_, rfl⟩
  rw [HTZ.out]
  clear hb3 HS2 HO2 HB2
  go_wp2_with (at_builtin; refine wpList_app_ints rfl (.tmp 19) (.tmp 23) rfl _ W.heap.size B bc (numZ (bestN gs)) (by rw [HBL.out]; rfl) _ _ [tz] rfl (HO3.out.alloc _) (one_new _ _) (by rw [HBL.out]; simp; omega) (by simp; omega) (by simp) ?_; intro v w5 hA)
  obtain ⟨⟨B5, c5, rfl, ho5⟩, hg5, hb5⟩ := hA
  have hB5 : Below W.heap.size W w5 := (HB3.out.alloc hs3 _).trans hb5
  have hz5 : W.heap.size ≤ w5.heap.size := hB5.size
  have HBI : Hid (IntsAt w5 w5.heap.size B5 (numZ (bestN gs) ++ [tz])) := ho5.ints
  have HO5 : Hid (OwnInts w5 w.heap.size (some ⟨w.heap.size, 0, none⟩) 0 (numZ (upBy (servedB gs t) 0))) := HO0.out.below hB5
  have HBW5 : Hid (Below w.heap.size w w5) := HBW.out.trans (hB5.mono HBW.out.size)
  have HLB : Hid ((numZ (bestN gs) ++ [tz]).length = bl + 1) := by show _ = _; rw [List.length_append, HBL.out]; rfl
  have HAP : Hid (∀ b o, B5 = some ⟨b, o, none⟩ → w.heap.size ≠ b ∧ b < w5.heap.size) := by
    intro b o hb
    obtain ⟨b', e⟩ := ho5.some_ (by rw [HLB.out]; omega)
    have hl := World.ownsRow.lt (by rw [e] at ho5; exact ho5) b' rfl
    rw [e] at hb
    injection hb with hb
    injection hb with hb _ _
    have := HBW.out.size
    have h1 : (w.alloc (.cells #[] 3)).heap.size = w.heap.size + 1 := by simp
    rw [HW.out] at h1
    exact ⟨by omega, by omega⟩
  rw [HLB.out]
  clear ho5 hg5 hb5 hB5 HO3 HB3 hs3 HO0 HBW
  go_wp2
  go_loopw [5, 7] (fun p i wr => ∃ (k m g c : Nat), k ≤ n ∧ m ≤ k ∧ i = .int .i64 (k : Int) ∧ p = .slice (some ⟨g, 0, none⟩) m c ∧ Hid ((numZ (upBy (servedB gs t) k)).length = m) ∧ Hid (OwnInts wr w.heap.size (some ⟨g, 0, none⟩) c (numZ (upBy (servedB gs t) k))) ∧ Hid (IntsAt wr w5.heap.size B5 (numZ (bestN gs) ++ [tz])) ∧ Hid (∀ b o, B5 = some ⟨b, o, none⟩ → g ≠ b ∧ b < w5.heap.size) ∧ Hid (w5.heap.size ≤ wr.heap.size) ∧ Hid (Below w.heap.size w wr)) (fun _ i _ => n - (intOf i).toNat)
  case atStart => exact ⟨0, 0, w.heap.size, 0, Nat.zero_le _, Nat.le_refl _, rfl, rfl, (rfl : (0 : Nat) = 0), HO5, HBI, HAP, Nat.le_refl _, HBW5⟩
  case round =>
    obtain ⟨k, m, g, c, hk, hmk, rfl, rfl, HL, HO, HBR, HG, HZ, HB⟩ := hrel
    have hz := HZ.out
    have hsz := HB.out.size
    by_cases hlt : k < n
    · have hki : (k : Int) < (n : Int) := by omega
      have CH := hasS_any B5 c5 (numZ (bestN gs) ++ [tz]) (k : Int) wr (HBR.out.more hz) (by rw [HLB.out]; unfold maxLen; omega)
      have hsb : decide ((k : Int) ∈ numZ (bestN gs) ++ [tz]) = servedB gs t k := by rw [← HTZ.out]; exact served_has (by rw [HN.out]; exact hlt)
      rw [HLB.out, hsb] at CH
      have hst := upBy_step (servedB gs t) k
      obtain ⟨b, HBB⟩ : ∃ b, Hid (servedB gs t k = b) := ⟨_, rfl⟩
      rw [HBB.out] at CH hst
      have HC := Lib.hid CH
      clear CH hsb
      cases b with
      | false =>
        rw [if_neg (by decide)] at hst
        have HS := Lib.hid hst
        clear hst
        go_wp2_with fail
        refine HC.out.mono ?_
        rintro e w6 ⟨rfl, hw6⟩
        cases hw6
        go_wp2
        go_roundw
        case rel => exact ⟨k + 1, m, g, c, by omega, by omega, by go_num, rfl, by rw [HS.out]; exact HL, by rw [HS.out]; exact HO, HBR, HG, HZ, HB⟩
        case measure => simp [intOf]; omega
      | true =>
        rw [if_pos rfl] at hst
        have HS : Hid (numZ (upBy (servedB gs t) (k + 1)) = numZ (upBy (servedB gs t) k) ++ [(k : Int)]) := by show _ = _; rw [hst, numZ_append]; rfl
        have HL1 : Hid ((numZ (upBy (servedB gs t) (k + 1))).length = m + 1) := by show _ = _; rw [HS.out, List.length_append, HL.out]; rfl
        clear hst
        go_wp2_with fail
        refine HC.out.mono ?_
        rintro e w6 ⟨rfl, hw6⟩
        cases hw6
        go_wp2_with (at_builtin; refine wpList_one_add rfl (.tmp 34) (.tmp 36) rfl _ w.heap.size g c (numZ (upBy (servedB gs t) k)) (by rw [HL.out]; rfl) _ _ (k : Int) rfl (HO.out.alloc _) (one_new _ _) (by rw [HL.out]; omega) (by simp; omega) ?_; intro v w6 hA)
        obtain ⟨⟨g6, c6, rfl, ho6, hgg⟩, hg6, hb6⟩ := hA
        rw [← HS.out] at ho6
        have HO6 := Lib.hid ho6
        have HB6 : Hid (Below w.heap.size w w6) := (HB.out.alloc hsz _).trans hb6
        have hgr := hg6 g rfl
        have HZ6 : Hid (w5.heap.size ≤ w6.heap.size) := by have := hgr.size; simp at this; show _ ≤ _; omega
        have HBR6 : Hid (IntsAt w6 w5.heap.size B5 (numZ (bestN gs) ++ [tz])) := ints_block HBR.out fun b o e => by
          have hgb := HG.out b o e
          refine (hgr.block b (by simp; omega) (fun e2 => hgb.1 (by injection e2 with e2; exact e2.symm))).trans (Below.heap_alloc _ _ b (by omega))
        have HG6 : Hid (∀ b o, B5 = some ⟨b, o, none⟩ → g6 ≠ b ∧ b < w5.heap.size) := by
          intro b o e
          have hgb := HG.out b o e
          refine ⟨?_, hgb.2⟩
          rcases hgg with hgg | hgg
          · injection hgg with hgg
            injection hgg with hgg _ _
            omega
          · simp at hgg; omega
        rw [HL.out]
        clear ho6 hg6 hb6 hgr hgg
        go_wp2
        go_roundw
        case rel => exact ⟨k + 1, m + 1, g6, c6, by omega, by omega, by go_num, rfl, HL1, HO6, HBR6, HG6, HZ6, HB6⟩
        case measure => simp [intOf]; omega
    · have hkn : k = n := by omega
      subst hkn
      have HE : Hid (upBy (servedB gs t) k = servedN gs t) := by show _ = _; rw [← upBy_served, HN.out]
      rw [HE.out] at HL HO
      go_wp2
      go_ret
      exact ⟨some ⟨g, 0, none⟩, c, by rw [HL.out]; rfl, HO.out, HB.out⟩

set_option maxHeartbeats 2000000 in
set_option maxRecDepth 100000 in
theorem sserved_no (A : Option Addr) (cap : Nat) (gs : List Int) (n : Nat) (t : Int) (w : World) (hI : IntsAt w w.heap.size A gs) (hn : gs.length = n) (hm : n ≤ 1048576) (hno : ¬ (okG gs = true ∧ okT t = true)) :
    Calls Try.prog 7 #[.slice A n cap, .int .i64 t] w (RetInts w []) := by
  obtain ⟨W, HW⟩ : ∃ W, Hid (w.alloc (.cells #[] 3) = W) := ⟨_, rfl⟩
  have hIW : IntsAt W W.heap.size A gs := by rw [← HW.out]; exact hI.allocS _
  have HO0 : Hid (OwnInts W w.heap.size (some ⟨w.heap.size, 0, none⟩) 0 []) := by rw [← HW.out]; exact OwnInts.new w
  have HBW : Hid (Below w.heap.size w W) := by rw [← HW.out]; exact (Below.refl _ _).alloc (Nat.le_refl _) _
  have CV := sgiven_any A cap gs n W W.heap.size hIW hn hm
  have CT : Calls Try.prog 20 #[.int .i64 t, .int .i64 0, .int .i64 999] W fun e w' => e = .returned (.bool (okT t)) ∧ w' = W := l6in_any t 0 999 W
  cases hg : okG gs with
  | false =>
    rw [hg] at CV
    have HV := Lib.hid CV
    clear CV CT hI hIW hg hno
    go_enter Try.func7, Try.ntmps7
    go_wp2_with fail
    rw [HW.out]
    refine HV.out.mono ?_
    rintro e w1 ⟨rfl, hw⟩
    cases hw
    go_wp2
    go_ret
    exact ⟨_, 0, rfl, HO0.out, HBW.out⟩
  | true =>
    have ht : okT t = false := by
      cases e : okT t with
      | false => rfl
      | true => exact absurd ⟨hg, e⟩ hno
    rw [hg] at CV
    rw [ht] at CT
    have HV := Lib.hid CV
    have HT := Lib.hid CT
    clear CV CT hI hIW hg hno ht
    go_enter Try.func7, Try.ntmps7
    go_wp2_with fail
    rw [HW.out]
    refine HV.out.mono ?_
    rintro e w1 ⟨rfl, hw⟩
    cases hw
    go_wp2_with fail
    refine HT.out.mono ?_
    rintro e w1 ⟨rfl, hw⟩
    cases hw
    go_wp2
    go_ret
    exact ⟨_, 0, rfl, HO0.out, HBW.out⟩
theorem schokeServed_any (A : Option Addr) (cap : Nat) (gs : List Int) (n : Nat) (t : Int) (w : World) (hI : IntsAt w w.heap.size A gs) (hn : gs.length = n) (hm : n ≤ 1048576) :
    Calls Try.prog 7 #[.slice A n cap, .int .i64 t] w (RetInts w (servedZ gs t)) := by
  by_cases h : okG gs = true ∧ okT t = true
  · obtain ⟨q, rfl⟩ : ∃ q : Nat, t = (q : Int) := ⟨t.toNat, by have := okT_iff.1 h.2; omega⟩
    rw [servedZ_yes' h.1 h.2, Int.toNat_natCast]
    exact sserved_yes A cap gs n q w hI hn h.1 h.2
  · rw [servedZ_no' h]
    exact sserved_no A cap gs n t w hI hn hm h

end Go.Proofs.Ytgmaegcnbebcnaa
