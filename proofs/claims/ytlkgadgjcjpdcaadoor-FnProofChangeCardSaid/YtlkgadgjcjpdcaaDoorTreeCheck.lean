/- Contract of TreeCheck: whether a proof shows a leaf. Conditions: the proof lies in memory; the table of math/bits holds what its text lays. -/
import Derived.Test.YtlkgadgjcjpdcaaDoorTrail
import Derived.Test.YtlkgadgjcjpdcaaDoorClimb
import Derived.Test.YtlkgadgjcjpdcaaDoorPlace
import Derived.Test.YtlkgadgjcjpdcaaDoorInsert
import Derived.Test.YtlkgadgjcjpdcaaDoorKnown
import Derived.Test.YtlkgadgjcjpdcaaDoorProof
namespace Go.Proofs.YtlkgadgjcjpdcaaDoor
open Go.RowKit
set_option linter.unusedVariables false

/-- The arguments of a check that can be right. -/
def treeIn (n i leaf : Int) (zs : List Int) : Prop := (1 ≤ n ∧ n ≤ 16) ∧ (0 ≤ i ∧ i < n) ∧ (0 ≤ leaf ∧ leaf < 991) ∧ digB zs = true
def treeOk (digest n i leaf : Int) (zs : List Int) : Prop := treeIn n i leaf zs ∧ zs.length = proofLen n.toNat i.toNat ∧ checkZ n.toNat i.toNat leaf zs = digest
instance (n i leaf : Int) (zs : List Int) : Decidable (treeIn n i leaf zs) := by unfold treeIn; infer_instance
instance (digest n i leaf : Int) (zs : List Int) : Decidable (treeOk digest n i leaf zs) := by unfold treeOk; infer_instance
def treeOkB (digest n i leaf : Int) (zs : List Int) : Bool := decide (treeOk digest n i leaf zs)
theorem treeOkB_iff (digest n i leaf : Int) (zs : List Int) : treeOkB digest n i leaf zs = true ↔ treeOk digest n i leaf zs := by unfold treeOkB; rw [decide_eq_true_eq]
theorem treeOkB_no {digest n i leaf : Int} {zs : List Int} (h : ¬ treeOk digest n i leaf zs) : treeOkB digest n i leaf zs = false := by
  rw [Bool.eq_false_iff]; exact fun e => h ((treeOkB_iff _ _ _ _ _).1 e)

theorem natsZ_erase (ss : List Nat) (p : Nat) : (vals (natsZ ss)).take p ++ (vals (natsZ ss)).drop (p + 1) = vals (natsZ (ss.eraseIdx p)) := by
  unfold vals natsZ
  rw [← List.eraseIdx_eq_take_drop_succ, eraseIdx_map, eraseIdx_map]
def DeletedI (w : World) (base b c : Nat) (zs : List Int) (e : Ending) (w' : World) : Prop :=
  e = .returned (.slice (some ⟨b, 0, none⟩) zs.length c) ∧ OwnInts w' base (some ⟨b, 0, none⟩) c zs ∧ w.grownBy w' (some b)
theorem deli_any (ss : List Nat) (p base b c : Nat) (w : World) (hO : OwnInts w base (some ⟨b, 0, none⟩) c (natsZ ss)) (hp : p < ss.length) (hn : ss.length ≤ 1000) :
    Calls Tryd.prog 40 #[.slice (some ⟨b, 0, none⟩) ss.length c, .int .i64 (p : Int), .int .i64 ((p : Int) + 1)] w (DeletedI w base b c (natsZ (ss.eraseIdx p))) := by
  have hl : (vals (natsZ ss)).length = ss.length := by rw [vals_length, natsZ_length]
  have h1 : w.ownsRow base 3 1 (.slice (some ⟨b, 0, none⟩) (vals (natsZ ss)).length c) (vals (natsZ ss)).length (vals (natsZ ss)) := by
    have := hO
    unfold OwnInts at this
    rw [natsZ_length] at this
    rw [hl]
    exact this
  have h := deli_rows (vals (natsZ ss)) p (p + 1) base b c w h1 (vals_one _) (by omega) (by rw [hl]; omega) (by rw [hl]; exact hn)
  rw [hl, natsZ_erase, show ss.length - (p + 1 - p) = (natsZ (ss.eraseIdx p)).length by rw [natsZ_length, List.length_eraseIdx_of_lt hp]; omega] at h
  exact h

theorem RootsAt.insert {w : World} {gs : List Nat} {rs : List Int} (h : RootsAt w gs rs) (p g : Nat) (r : Int) (hp : p ≤ gs.length) (hn : ∃ s x y, Node w g r s x y) : RootsAt w (gs.insertIdx p g) (rs.insertIdx p r) := by
  have hs := h.same
  refine ⟨by rw [List.length_insertIdx_of_le_length hp, List.length_insertIdx_of_le_length (by omega), hs], fun k hk => ?_⟩
  rw [List.length_insertIdx_of_le_length hp] at hk
  rw [insert_split g gs p hp, insert_split r rs p (by omega)]
  have hl1 : (gs.take p).length = p := by rw [List.length_take]; omega
  have hl2 : (rs.take p).length = p := by rw [List.length_take]; omega
  unfold gth nth
  rw [List.getD_eq_getElem?_getD, List.getD_eq_getElem?_getD]
  by_cases c : k < p
  · rw [List.getElem?_append_left (by omega), List.getElem?_append_left (by omega), List.getElem?_take_of_lt c, List.getElem?_take_of_lt c]
    have := h.node k (by omega)
    unfold gth nth at this
    rw [List.getD_eq_getElem?_getD, List.getD_eq_getElem?_getD] at this
    exact this
  · rw [List.getElem?_append_right (by omega), List.getElem?_append_right (by omega), hl1, hl2]
    by_cases e : k = p
    · rw [e, Nat.sub_self]
      exact hn
    · obtain ⟨j, hj⟩ : ∃ j, k - p = j + 1 := ⟨k - p - 1, by omega⟩
      rw [hj, List.getElem?_cons_succ, List.getElem?_cons_succ, List.getElem?_drop, List.getElem?_drop]
      have := h.node (p + j) (by omega)
      unfold gth nth at this
      rw [List.getD_eq_getElem?_getD, List.getD_eq_getElem?_getD] at this
      exact this

set_option maxHeartbeats 2000000 in
theorem tcheck_out (digest n i leaf : Int) (zs : List Int) (A : Option Addr) (cap : Nat) (w : World) (hI : IntsAt w w.heap.size A zs) (hmax : zs.length ≤ maxLen) (hno : ¬ treeIn n i leaf zs) :
    Calls Tryd.prog 13 #[.int .i64 digest, .int .i64 n, .int .i64 i, .int .i64 leaf, .slice A zs.length cap] w fun e w' => e = .returned (.bool false) ∧ Below w.heap.size w w' := by
  have HI := Lib.hid hI
  have HM := Lib.hid hmax
  clear hI hmax
  by_cases h1 : n < 1
  · clear hno
    go_enter Tryd.func13, Tryd.ntmps13
    go_wp2
    go_ret
    exact ⟨rfl, Below.refl _ _⟩
  by_cases h2 : 16 < n
  · clear hno
    go_enter Tryd.func13, Tryd.ntmps13
    go_wp2
    go_ret
    exact ⟨rfl, Below.refl _ _⟩
  by_cases h3 : i < 0
  · clear hno
    go_enter Tryd.func13, Tryd.ntmps13
    go_wp2
    go_ret
    exact ⟨rfl, Below.refl _ _⟩
  by_cases h4 : n ≤ i
  · clear hno
    go_enter Tryd.func13, Tryd.ntmps13
    go_wp2
    go_ret
    exact ⟨rfl, Below.refl _ _⟩
  cases hl : digB [leaf] with
  | false =>
    have HL := Lib.hid hl
    clear hno hl
    go_enter Tryd.func13, Tryd.ntmps13
    go_wp2_with fail
    refine (are_any _ _ [leaf] _ (one_new w leaf) (by simp [maxLen])).mono ?_
    rintro e w' ⟨rfl, rfl⟩
    rw [HL.out]
    go_wp2
    go_ret
    exact ⟨rfl, (Below.refl _ _).alloc (Nat.le_refl _) _⟩
  | true =>
    have hlf : 0 ≤ leaf ∧ leaf < 991 := digB_yes hl leaf (by simp)
    have HL := Lib.hid hl
    have HZ : Hid (digB zs = false) := by
      show _ = _
      rw [Bool.eq_false_iff]
      exact fun e => hno ⟨by omega, by omega, hlf, e⟩
    clear hno hl hlf
    go_enter Tryd.func13, Tryd.ntmps13
    go_wp2_with fail
    refine (are_any _ _ [leaf] _ (one_new w leaf) (by simp [maxLen])).mono ?_
    rintro e w' ⟨rfl, rfl⟩
    rw [HL.out]
    go_wp2_with fail
    refine (are_any _ _ zs _ (HI.out.allocS _) HM.out).mono ?_
    rintro e w' ⟨rfl, rfl⟩
    rw [HZ.out]
    go_wp2
    go_ret
    exact ⟨rfl, (Below.refl _ _).alloc (Nat.le_refl _) _⟩

theorem look_depth : allNI (fun n i => decide ((peakOf n i).2 = 2 ^ depthOf n i) && decide (depthOf n i ≤ 4) && decide (depthOf n i ≤ proofLen n i)) = true := by decide +kernel
theorem depth_facts {n i : Nat} (h : n ≤ 16) (hi : i < n) : (peakOf n i).2 = 2 ^ depthOf n i ∧ depthOf n i ≤ 4 ∧ depthOf n i ≤ proofLen n i := by
  have := allNI_get look_depth h hi
  simp only [Bool.and_eq_true, decide_eq_true_eq] at this
  exact ⟨this.1.1, this.1.2, this.2⟩

set_option maxHeartbeats 4000000 in
set_option maxRecDepth 100000 in
theorem tcheck_in (digest leaf : Int) (n i : Nat) (zs : List Int) (A : Option Addr) (cap : Nat) (w : World) (hT : Tab w) (hI : IntsAt w w.heap.size A zs) (hA : (A = none ∧ cap = 0) ∨ ∃ b o, A = some ⟨b, o, none⟩) (hcap : zs.length ≤ cap) (hmax : cap ≤ maxLen) (h1 : 1 ≤ n) (h16 : n ≤ 16) (hi : i < n) (hl0 : 0 ≤ leaf) (hl1 : leaf < 991) (hz : digB zs = true) :
    Calls Tryd.prog 13 #[.int .i64 digest, .int .i64 (n : Int), .int .i64 (i : Int), .int .i64 leaf, .slice A zs.length cap] w fun e w' => e = .returned (.bool (treeOkB digest n i leaf zs)) ∧ Below w.heap.size w w' := by
  have HI := Lib.hid hI
  have HT := Lib.hid hT
  have HZ := Lib.hid hz
  have HD := Lib.hid (digB_yes hz)
  have HL : Hid (digB [leaf] = true) := digB_of (fun x hx => by rw [List.mem_singleton] at hx; subst hx; exact ⟨hl0, hl1⟩)
  have HM := Lib.hid (Nat.le_trans hcap hmax)
  have HT0 : Hid (treeIn n i leaf zs) := ⟨by omega, by omega, ⟨hl0, hl1⟩, hz⟩
  obtain ⟨hp1, _, hp3⟩ := place_facts h16 hi
  obtain ⟨d1, d2, d3⟩ := depth_facts h16 hi
  obtain ⟨p, HP⟩ : ∃ p, Hid (placeOf n i = p) := ⟨_, rfl⟩
  obtain ⟨m, HMM⟩ : ∃ m, Hid ((sizesOf 0 n).length = m) := ⟨_, rfl⟩
  rw [HP.out, ← sizesOf_length, HMM.out] at hp1
  have hm17 : m ≤ 17 := by rw [← HMM.out, sizesOf_length]; exact places_length_le 0 n
  obtain ⟨d, HDD⟩ : ∃ d, Hid (depthOf n i = d) := ⟨_, rfl⟩
  have hpl : proofLen n i = d + m - 1 := by unfold proofLen; rw [HDD.out, HMM.out]
  have HPL := Lib.hid hpl
  rw [HDD.out] at d1 d2 d3
  have hsp : (sizesOf 0 n).getD p 0 = 2 ^ d := by
    rw [sizesOf_getD 0 n p (by rw [← sizesOf_length, HMM.out]; exact hp1), ← HP.out]
    exact d1
  have HSP := Lib.hid hsp
  obtain ⟨L, HLL⟩ : ∃ L, Hid (zs.length = L) := ⟨_, rfl⟩
  rw [HLL.out] at hcap ⊢
  have hmx := hmax
  unfold maxLen at hmx
  have CA : Hid (∀ W : World, Below w.heap.size w W → Calls Tryd.prog 36 #[.slice A L cap] W fun e w' => e = .returned (.bool true) ∧ W = w') := fun W hW => by
    have := are_any A cap zs W (hI.belowS hW) HM.out
    rw [HLL.out, hz] at this
    exact this
  clear hI hT hz hp3 hsp hpl d1
  go_enter Tryd.func13, Tryd.ntmps13
  go_wp2_with fail
  refine (are_any _ _ [leaf] _ (one_new w leaf) (by simp [maxLen])).mono ?_
  rintro e w' ⟨rfl, rfl⟩
  rw [HL.out]
  go_wp2_with fail
  refine (CA.out _ ((Below.refl _ _).alloc (Nat.le_refl _) _)).mono ?_
  rintro e w' ⟨rfl, rfl⟩
  go_wp2_with fail
  refine (sizes_any 0 n _ h16 (by omega)).mono ?_
  rintro e w1 ⟨A1, c1, rfl, hown1, hb1⟩
  simp only [World.size_alloc] at hown1 hb1
  rw [natsZ_length, HMM.out]
  obtain ⟨b1, hA1⟩ : ∃ b1, A1 = some ⟨b1, 0, none⟩ := by
    obtain ⟨g, cc, hv, _, _⟩ := World.ownsRow.form hown1 (by rw [natsZ_length, HMM.out]; omega)
    injection hv with hA _ _
    exact ⟨g, hA⟩
  subst hA1
  have HO1 := Lib.hid hown1
  have HB1 : Hid (Below w.heap.size w w1) := ((Below.refl _ w).alloc (Nat.le_refl _) _).trans (hb1.mono (by omega))
  have hb1f : w.heap.size < b1 := by have := hown1.far (n := 0) b1 rfl; omega
  clear hown1 hb1
  have CP : Hid (Calls Tryd.prog 25 #[.slice (some ⟨b1, 0, none⟩) m c1, .int .i64 (i : Int)] w1 fun e w' => e = .returned (.int .i64 (p : Int)) ∧ w1 = w') := by
    have := place_any n i (some ⟨b1, 0, none⟩) c1 w1 HO1.out.ints h16 hi
    rw [HMM.out, HP.out] at this
    exact this
  go_wp2_with fail
  refine CP.out.mono ?_
  rintro e w' ⟨rfl, rfl⟩
  have hcp : w1.cell? ⟨b1, p, none⟩ = some (.int .i64 ((2 ^ d : Nat) : Int)) := by
    have h := (HO1.out.ints.lt (by rw [natsZ_length, HMM.out]; omega)).2 p (by rw [natsZ_length, HMM.out]; exact hp1)
    rw [Nat.zero_add, natsZ_nth, HSP.out] at h
    exact h
  obtain ⟨sd, HSD⟩ : ∃ sd : Nat, Hid (2 ^ d = sd) := ⟨_, rfl⟩
  have hsd1 : 1 ≤ sd := by rw [← HSD.out]; exact Nat.pos_of_ne_zero (by simp)
  have hsd16 : sd ≤ 16 := by
    rw [← HSD.out]
    have : (2 : Nat) ^ d ≤ 2 ^ 4 := Nat.pow_le_pow_right (by omega) d2
    omega
  rw [HSD.out] at hcp
  have hpi : (p : Int) < (m : Int) := by omega
  have hpi0 : (0 : Int) ≤ (p : Int) := by omega
  have CT : Hid (Calls Tryd.prog 37 #[.int .u64 (sd : Int)] w1 fun e w' => e = .returned (.int .i64 (d : Int)) ∧ w1 = w') := by
    have := tz_any d w1 (HT.out.below HB1.out) d2
    rw [HSD.out] at this
    exact this
  go_wp2_with fail
  refine CT.out.mono ?_
  rintro e w' ⟨rfl, rfl⟩
  by_cases hlen : L = d + m - 1
  · have hne : ((L : Int) != (d : Int) + (m : Int) - 1) = false := by rw [bne_eq_false_iff_eq]; omega
    have hdL : d ≤ L := by omega
    have hmL : L - d = m - 1 := by omega
    obtain ⟨ck, HCK⟩ : ∃ ck, Hid (checkZ n i leaf zs = ck) := ⟨_, rfl⟩
    have HE : Hid (treeOkB digest n i leaf zs = (ck == digest)) := by
      show _ = _
      rw [Bool.eq_iff_iff, treeOkB_iff, beq_iff_eq]
      unfold treeOk
      rw [HLL.out, Int.toNat_natCast, Int.toNat_natCast, HPL.out, HCK.out]
      exact ⟨fun h => h.2.2, fun h => ⟨HT0.out, hlen, h⟩⟩
    have htl : (zs.take d).length = d := by rw [List.length_take, HLL.out]; omega
    have htd : (zs.drop d).length = m - 1 := by rw [List.length_drop, HLL.out]; omega
    obtain ⟨r, HR⟩ : ∃ r, Hid (climbG pairZ (zs.take d) 1 i leaf = r) := ⟨_, rfl⟩
    have hrb : 0 ≤ r ∧ r < 991 := by rw [← HR.out]; exact climb_bd _ _ _ _ ⟨hl0, hl1⟩
    have HRB := Lib.hid hrb
    have CC : Hid (Calls Tryd.prog 38 #[.int .i64 leaf, .int .i64 (i : Int), .slice A d cap] w1 (Climbed w1 r sd)) := by
      have := climb_any leaf i (zs.take d) A cap w1 ((HI.out.belowS HB1.out).first d) (HD.out.take d) hl0 hl1 (by omega) (by omega)
      rw [htl, HR.out, HSD.out] at this
      exact this
    have hi1 : (d : Int) ≤ (L : Int) := by omega
    have hi2 : (d : Int) ≤ (cap : Int) := by omega
    clear hlen htl hrb
    go_wp2_with fail
    refine CC.out.mono ?_
    rintro e w2 ⟨g, x, y, rfl, hnd, hb2⟩
    have HND := Lib.hid hnd
    have HO12 := Lib.hid (HO1.out.below hb2)
    have HB2 : Hid (Below w.heap.size w w2) := HB1.out.trans (hb2.mono HB1.out.size)
    have hz2 : w1.heap.size ≤ w2.heap.size := hb2.size
    have hb1w : b1 < w1.heap.size := (HO1.out.ints.lt (by rw [natsZ_length, HMM.out]; omega)).1
    clear hnd hb2 hcp
    have hL1 : (natsZ ((sizesOf 0 n).eraseIdx p)).length = m - 1 := by rw [natsZ_length, List.length_eraseIdx_of_lt (by rw [HMM.out]; exact hp1), HMM.out]
    have hL2 : ((sizesOf 0 n).eraseIdx p).length = m - 1 := by rw [← natsZ_length]; exact hL1
    have C1 : Hid (∀ W : World, W = w2.drew → Calls Tryd.prog 40 #[.slice (some ⟨b1, 0, none⟩) m c1, .int .i64 (p : Int), .int .i64 ((p : Int) + 1)] W (DeletedI w2 (w.heap.size + 1) b1 c1 (natsZ ((sizesOf 0 n).eraseIdx p)))) := fun W hW => by
      subst hW
      have := deli_any (sizesOf 0 n) p (w.heap.size + 1) b1 c1 w2.drew HO12.out (by rw [HMM.out]; exact hp1) (by rw [HMM.out]; omega)
      rw [HMM.out] at this
      exact this.mono fun e w' ⟨h1, h2, h3⟩ => ⟨h1, h2, ⟨h3.os, h3.tape, h3.output, h3.size, h3.block⟩⟩
    have hwp : IntKind.i64.wrap ((p : Int) + 1) = (p : Int) + 1 := IntWalk.i64_in _ (by omega)
    rcases hA with ⟨hA, hc0⟩ | ⟨b, o, hA⟩
    · subst hA hc0
      have hd0 : d = 0 := by omega
      have hi3 : (d : Int) ≤ 0 := by omega
      have C2 : Hid (∀ W : World, OwnInts W (w.heap.size + 1) (some ⟨b1, 0, none⟩) c1 (natsZ ((sizesOf 0 n).eraseIdx p)) → Below w.heap.size w W → Calls Tryd.prog 39 #[.slice (some ⟨b1, 0, none⟩) (m - 1) c1, .slice none 0 0] W (RetNodes W (((sizesOf 0 n).eraseIdx p).zip (zs.drop d)))) := fun W hW hBW => by
        have hr : IntsAt W W.heap.size none (zs.drop d) := fun hn => by rw [htd] at hn; omega
        have := knowns_any (some ⟨b1, 0, none⟩) c1 ((sizesOf 0 n).eraseIdx p) none 0 (zs.drop d) W hW.ints hr (by omega) (by omega)
        rw [show (zs.drop d).length = 0 by omega, show ((sizesOf 0 n).eraseIdx p).length = (m - 1) by omega] at this
        exact this
      go_wp2_with fail
      go_region_held3 (fun _ => True) (trivial)
        (first
          | (go_at_call 40; (with_reducible refine (C1.out w2.drew rfl).mono ?_); rintro e w3 ⟨rfl, hown3, hg3⟩; have HO3 := Lib.hid hown3; have HG3 := Lib.hid hg3; have HB3 : Hid (Below w.heap.size w w3) := HB2.out.grown hg3 (by have := HB2.out.size; omega) (fun k hk => by injection hk with hk; omega); clear hown3 hg3)
          | (go_at_call 39; (with_reducible refine (C2.out w3 HO3.out HB3.out).mono ?_); rintro e w4 ⟨A4, c4, gs, rfl, hown4, hnd4, hb4⟩; have HO4 := Lib.hid hown4; have HN4 := Lib.hid hnd4; have HB4 := Lib.hid hb4; clear hown4 hnd4 hb4))
      have hgl : gs.length = m - 1 := by
        have h := HN4.out.same
        rw [List.length_zip, htd, hL2] at h
        omega
      have HRT : Hid (RootsAt w4 gs (zs.drop d)) := by
        have h := HN4.out.roots
        rw [List.map_snd_zip (by omega)] at h
        exact h
      have HND4 : Hid (Node w4 g r (sd : Int) x y) := by
        have h3 : Node w3 g r (sd : Int) x y := Blk.grown HND.out HG3.out (fun e => own_blk_ne HO12.out HND.out (by decide) e.symm)
        exact Kept.of_below HB4.out _ _ _ _ _ h3
      have hz3 : w.heap.size ≤ w3.heap.size := HB3.out.size
      have hz4 : w3.heap.size ≤ w4.heap.size := HB4.out.size
      have HB04 : Hid (Below w.heap.size w w4) := HB3.out.trans (HB4.out.mono hz3)
      have HFZ : Hid (foldZ n ((zs.drop d).insertIdx p r) = ck) := by
        show _ = _
        rw [← HCK.out]
        unfold checkZ checkG foldZ
        rw [HDD.out, HP.out, HR.out]
      have HDG : Hid (Digs ((zs.drop d).insertIdx p r)) := by
        intro q hq
        rw [insert_split r _ p (by rw [htd]; omega)] at hq
        rcases List.mem_append.1 hq with hq | hq
        · exact HD.out q (List.mem_of_mem_drop (List.mem_of_mem_take hq))
        · rcases List.mem_cons.1 hq with hq | hq
          · subst hq; exact HRB.out
          · exact HD.out q (List.mem_of_mem_drop (List.mem_of_mem_drop hq))
      have HGL := Lib.hid hgl
      clear hgl htd hL1 hL2
      have CI : Hid (Calls Tryd.prog 41 #[.slice A4 gs.length c4, .int .i64 (p : Int), .slice (some ⟨w4.heap.size, 0, none⟩) 1 1] (w4.alloc (.cells #[ptr g] 45)) (Inserted (w4.alloc (.cells #[ptr g] 45)) w3.heap.size (gs.insertIdx p g))) :=
        ins_any gs p g w3.heap.size A4 c4 w4.heap.size _ (HO4.out.alloc _) (Blk.new w4 _ _) (by rw [HGL.out]; omega) (fun b hb => by have := (World.ownsRow.lt HO4.out b (by rw [hb]; rfl)).2; omega) (by rw [HGL.out]; omega) (by simp; omega)
      go_wp2_with fail
      refine CI.out.mono ?_
      rintro e w6 ⟨A6, c6, rfl, hown6, hb6, hk6⟩
      have HO6 := Lib.hid hown6
      have HK6 := Lib.hid ((Kept.alloc w4 _).trans hk6)
      have HB6 : Hid (Below w.heap.size w w6) := (HB04.out.alloc (by omega) _).trans (hb6.mono hz3)
      clear hown6 hb6 hk6
      have HRT6 : Hid (RootsAt w6 (gs.insertIdx p g) ((zs.drop d).insertIdx p r)) := (HRT.out.kept HK6.out).insert p g r (by rw [HGL.out]; omega) ⟨_, x, y, HK6.out _ _ _ _ _ HND4.out⟩
      go_wp2_with fail
      refine (peaksD_any (n : Int) A6 c6 (gs.insertIdx p g) ((zs.drop d).insertIdx p r) _ HO6.out.ints (by rw [List.length_insertIdx_of_le_length (by rw [HGL.out]; omega), HGL.out]; omega) HRT6.out HDG.out (by omega) (by omega)).mono ?_
      rintro e w' ⟨rfl, rfl⟩
      rw [HFZ.out]
      go_wp2
      go_ret
      exact ⟨ret_bool HE.out.symm, HB6.out⟩
    · subst hA
      by_cases hcd : cap = d
      · have hmz : m - 1 = 0 := by omega
        have C2 : Hid (∀ W : World, OwnInts W (w.heap.size + 1) (some ⟨b1, 0, none⟩) c1 (natsZ ((sizesOf 0 n).eraseIdx p)) → Below w.heap.size w W → Calls Tryd.prog 39 #[.slice (some ⟨b1, 0, none⟩) 0 c1, .slice (some ⟨b, o, none⟩) 0 0] W (RetNodes W (((sizesOf 0 n).eraseIdx p).zip (zs.drop d)))) := fun W hW hBW => by
          have hr : IntsAt W W.heap.size (some ⟨b, o, none⟩) (zs.drop d) := fun hn => by rw [htd] at hn; omega
          have := knowns_any (some ⟨b1, 0, none⟩) c1 ((sizesOf 0 n).eraseIdx p) (some ⟨b, o, none⟩) 0 (zs.drop d) W hW.ints hr (by omega) (by omega)
          rw [show (zs.drop d).length = 0 by omega, show ((sizesOf 0 n).eraseIdx p).length = 0 by omega] at this
          exact this
        go_wp2_with fail
        go_region_held3 (fun _ => True) (trivial)
          (first
            | (go_at_call 40; (with_reducible refine (C1.out w2.drew rfl).mono ?_); rintro e w3 ⟨rfl, hown3, hg3⟩; have HO3 := Lib.hid hown3; have HG3 := Lib.hid hg3; have HB3 : Hid (Below w.heap.size w w3) := HB2.out.grown hg3 (by have := HB2.out.size; omega) (fun k hk => by injection hk with hk; omega); clear hown3 hg3)
            | (go_at_call 39; (with_reducible refine (C2.out w3 HO3.out HB3.out).mono ?_); rintro e w4 ⟨A4, c4, gs, rfl, hown4, hnd4, hb4⟩; have HO4 := Lib.hid hown4; have HN4 := Lib.hid hnd4; have HB4 := Lib.hid hb4; clear hown4 hnd4 hb4))
        have hgl : gs.length = m - 1 := by
          have h := HN4.out.same
          rw [List.length_zip, htd, hL2] at h
          omega
        have HRT : Hid (RootsAt w4 gs (zs.drop d)) := by
          have h := HN4.out.roots
          rw [List.map_snd_zip (by omega)] at h
          exact h
        have HND4 : Hid (Node w4 g r (sd : Int) x y) := by
          have h3 : Node w3 g r (sd : Int) x y := Blk.grown HND.out HG3.out (fun e => own_blk_ne HO12.out HND.out (by decide) e.symm)
          exact Kept.of_below HB4.out _ _ _ _ _ h3
        have hz3 : w.heap.size ≤ w3.heap.size := HB3.out.size
        have hz4 : w3.heap.size ≤ w4.heap.size := HB4.out.size
        have HB04 : Hid (Below w.heap.size w w4) := HB3.out.trans (HB4.out.mono hz3)
        have HFZ : Hid (foldZ n ((zs.drop d).insertIdx p r) = ck) := by
          show _ = _
          rw [← HCK.out]
          unfold checkZ checkG foldZ
          rw [HDD.out, HP.out, HR.out]
        have HDG : Hid (Digs ((zs.drop d).insertIdx p r)) := by
          intro q hq
          rw [insert_split r _ p (by rw [htd]; omega)] at hq
          rcases List.mem_append.1 hq with hq | hq
          · exact HD.out q (List.mem_of_mem_drop (List.mem_of_mem_take hq))
          · rcases List.mem_cons.1 hq with hq | hq
            · subst hq; exact HRB.out
            · exact HD.out q (List.mem_of_mem_drop (List.mem_of_mem_drop hq))
        have HGL := Lib.hid hgl
        clear hgl htd hL1 hL2
        have CI : Hid (Calls Tryd.prog 41 #[.slice A4 gs.length c4, .int .i64 (p : Int), .slice (some ⟨w4.heap.size, 0, none⟩) 1 1] (w4.alloc (.cells #[ptr g] 45)) (Inserted (w4.alloc (.cells #[ptr g] 45)) w3.heap.size (gs.insertIdx p g))) :=
          ins_any gs p g w3.heap.size A4 c4 w4.heap.size _ (HO4.out.alloc _) (Blk.new w4 _ _) (by rw [HGL.out]; omega) (fun b hb => by have := (World.ownsRow.lt HO4.out b (by rw [hb]; rfl)).2; omega) (by rw [HGL.out]; omega) (by simp; omega)
        go_wp2_with fail
        refine CI.out.mono ?_
        rintro e w6 ⟨A6, c6, rfl, hown6, hb6, hk6⟩
        have HO6 := Lib.hid hown6
        have HK6 := Lib.hid ((Kept.alloc w4 _).trans hk6)
        have HB6 : Hid (Below w.heap.size w w6) := (HB04.out.alloc (by omega) _).trans (hb6.mono hz3)
        clear hown6 hb6 hk6
        have HRT6 : Hid (RootsAt w6 (gs.insertIdx p g) ((zs.drop d).insertIdx p r)) := (HRT.out.kept HK6.out).insert p g r (by rw [HGL.out]; omega) ⟨_, x, y, HK6.out _ _ _ _ _ HND4.out⟩
        go_wp2_with fail
        refine (peaksD_any (n : Int) A6 c6 (gs.insertIdx p g) ((zs.drop d).insertIdx p r) _ HO6.out.ints (by rw [List.length_insertIdx_of_le_length (by rw [HGL.out]; omega), HGL.out]; omega) HRT6.out HDG.out (by omega) (by omega)).mono ?_
        rintro e w' ⟨rfl, rfl⟩
        rw [HFZ.out]
        go_wp2
        go_ret
        exact ⟨ret_bool HE.out.symm, HB6.out⟩
      · have hr0 : Hid (∀ W : World, Below w.heap.size w W → IntsAt W W.heap.size (some ⟨b, o + d, none⟩) (zs.drop d)) := fun W hW => by
          have h := (HI.out.belowS hW).part d L rfl
          rw [List.take_of_length_le (by rw [htd]; omega)] at h
          exact h
        have C2 : Hid (∀ W : World, OwnInts W (w.heap.size + 1) (some ⟨b1, 0, none⟩) c1 (natsZ ((sizesOf 0 n).eraseIdx p)) → Below w.heap.size w W → Calls Tryd.prog 39 #[.slice (some ⟨b1, 0, none⟩) (m - 1) c1, .slice (some ⟨b, o + d, none⟩) (m - 1) (cap - d)] W (RetNodes W (((sizesOf 0 n).eraseIdx p).zip (zs.drop d)))) := fun W hW hBW => by
          have hr : IntsAt W W.heap.size (some ⟨b, o + d, none⟩) (zs.drop d) := hr0.out W hBW
          have := knowns_any (some ⟨b1, 0, none⟩) c1 ((sizesOf 0 n).eraseIdx p) (some ⟨b, o + d, none⟩) (cap - d) (zs.drop d) W hW.ints hr (by omega) (by omega)
          rw [show (zs.drop d).length = (m - 1) by omega, show ((sizesOf 0 n).eraseIdx p).length = (m - 1) by omega] at this
          exact this
        go_wp2_with fail
        go_region_held3 (fun _ => True) (trivial)
          (first
            | (go_at_call 40; (with_reducible refine (C1.out w2.drew rfl).mono ?_); rintro e w3 ⟨rfl, hown3, hg3⟩; have HO3 := Lib.hid hown3; have HG3 := Lib.hid hg3; have HB3 : Hid (Below w.heap.size w w3) := HB2.out.grown hg3 (by have := HB2.out.size; omega) (fun k hk => by injection hk with hk; omega); clear hown3 hg3)
            | (go_at_call 39; (with_reducible refine (C2.out w3 HO3.out HB3.out).mono ?_); rintro e w4 ⟨A4, c4, gs, rfl, hown4, hnd4, hb4⟩; have HO4 := Lib.hid hown4; have HN4 := Lib.hid hnd4; have HB4 := Lib.hid hb4; clear hown4 hnd4 hb4))
        have hgl : gs.length = m - 1 := by
          have h := HN4.out.same
          rw [List.length_zip, htd, hL2] at h
          omega
        have HRT : Hid (RootsAt w4 gs (zs.drop d)) := by
          have h := HN4.out.roots
          rw [List.map_snd_zip (by omega)] at h
          exact h
        have HND4 : Hid (Node w4 g r (sd : Int) x y) := by
          have h3 : Node w3 g r (sd : Int) x y := Blk.grown HND.out HG3.out (fun e => own_blk_ne HO12.out HND.out (by decide) e.symm)
          exact Kept.of_below HB4.out _ _ _ _ _ h3
        have hz3 : w.heap.size ≤ w3.heap.size := HB3.out.size
        have hz4 : w3.heap.size ≤ w4.heap.size := HB4.out.size
        have HB04 : Hid (Below w.heap.size w w4) := HB3.out.trans (HB4.out.mono hz3)
        have HFZ : Hid (foldZ n ((zs.drop d).insertIdx p r) = ck) := by
          show _ = _
          rw [← HCK.out]
          unfold checkZ checkG foldZ
          rw [HDD.out, HP.out, HR.out]
        have HDG : Hid (Digs ((zs.drop d).insertIdx p r)) := by
          intro q hq
          rw [insert_split r _ p (by rw [htd]; omega)] at hq
          rcases List.mem_append.1 hq with hq | hq
          · exact HD.out q (List.mem_of_mem_drop (List.mem_of_mem_take hq))
          · rcases List.mem_cons.1 hq with hq | hq
            · subst hq; exact HRB.out
            · exact HD.out q (List.mem_of_mem_drop (List.mem_of_mem_drop hq))
        have HGL := Lib.hid hgl
        clear hgl htd hL1 hL2
        have CI : Hid (Calls Tryd.prog 41 #[.slice A4 gs.length c4, .int .i64 (p : Int), .slice (some ⟨w4.heap.size, 0, none⟩) 1 1] (w4.alloc (.cells #[ptr g] 45)) (Inserted (w4.alloc (.cells #[ptr g] 45)) w3.heap.size (gs.insertIdx p g))) :=
          ins_any gs p g w3.heap.size A4 c4 w4.heap.size _ (HO4.out.alloc _) (Blk.new w4 _ _) (by rw [HGL.out]; omega) (fun b hb => by have := (World.ownsRow.lt HO4.out b (by rw [hb]; rfl)).2; omega) (by rw [HGL.out]; omega) (by simp; omega)
        go_wp2_with fail
        refine CI.out.mono ?_
        rintro e w6 ⟨A6, c6, rfl, hown6, hb6, hk6⟩
        have HO6 := Lib.hid hown6
        have HK6 := Lib.hid ((Kept.alloc w4 _).trans hk6)
        have HB6 : Hid (Below w.heap.size w w6) := (HB04.out.alloc (by omega) _).trans (hb6.mono hz3)
        clear hown6 hb6 hk6
        have HRT6 : Hid (RootsAt w6 (gs.insertIdx p g) ((zs.drop d).insertIdx p r)) := (HRT.out.kept HK6.out).insert p g r (by rw [HGL.out]; omega) ⟨_, x, y, HK6.out _ _ _ _ _ HND4.out⟩
        go_wp2_with fail
        refine (peaksD_any (n : Int) A6 c6 (gs.insertIdx p g) ((zs.drop d).insertIdx p r) _ HO6.out.ints (by rw [List.length_insertIdx_of_le_length (by rw [HGL.out]; omega), HGL.out]; omega) HRT6.out HDG.out (by omega) (by omega)).mono ?_
        rintro e w' ⟨rfl, rfl⟩
        rw [HFZ.out]
        go_wp2
        go_ret
        exact ⟨ret_bool HE.out.symm, HB6.out⟩
  · have HE : Hid (treeOkB digest n i leaf zs = false) := treeOkB_no fun h => hlen (by
      have := h.2.1
      rw [HLL.out, Int.toNat_natCast, Int.toNat_natCast, HPL.out] at this
      exact this)
    have hne : ((L : Int) != (d : Int) + (m : Int) - 1) = true := by rw [bne_iff_ne]; omega
    clear hlen
    go_wp2
    go_ret
    exact ⟨ret_bool HE.out.symm, HB1.out⟩

theorem tcheck_any (digest n i leaf : Int) (zs : List Int) (A : Option Addr) (cap : Nat) (w : World) (hT : Tab w) (hI : IntsAt w w.heap.size A zs) (hA : (A = none ∧ cap = 0) ∨ ∃ b o, A = some ⟨b, o, none⟩) (hcap : zs.length ≤ cap) (hmax : cap ≤ maxLen) :
    Calls Tryd.prog 13 #[.int .i64 digest, .int .i64 n, .int .i64 i, .int .i64 leaf, .slice A zs.length cap] w fun e w' => e = .returned (.bool (treeOkB digest n i leaf zs)) ∧ Below w.heap.size w w' := by
  by_cases h : treeIn n i leaf zs
  · obtain ⟨h1, h2, h3, h4⟩ := h
    obtain ⟨n', rfl⟩ := Int.eq_ofNat_of_zero_le (show 0 ≤ n by omega)
    obtain ⟨i', rfl⟩ := Int.eq_ofNat_of_zero_le (show 0 ≤ i by omega)
    exact tcheck_in digest leaf n' i' zs A cap w hT hI hA hcap hmax (by omega) (by omega) (by omega) h3.1 h3.2 h4
  · rw [treeOkB_no fun k => h k.1]
    exact tcheck_out digest n i leaf zs A cap w hI (Nat.le_trans hcap hmax) h

end Go.Proofs.YtlkgadgjcjpdcaaDoor
