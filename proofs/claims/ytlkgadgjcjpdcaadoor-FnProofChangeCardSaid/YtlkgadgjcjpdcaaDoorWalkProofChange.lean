/- The walk of FnProofChange: it returns true and changes nothing that was there. Condition: the codes' bytes lie in memory. -/
import Derived.Test.YtlkgadgjcjpdcaaDoorProofLaws
import Derived.Test.YtlkgadgjcjpdcaaDoorDrawTreeCheck
import Derived.Test.YtlkgadgjcjpdcaaDoorOther
import Derived.Test.YtlkgadgjcjpdcaaDoorIn
import Derived.Deep.RegionHeld3
namespace Go.Proofs.YtlkgadgjcjpdcaaDoor
open Go.RowKit
set_option linter.unusedVariables false

theorem own_drew {w : World} {base : Nat} {A : Option Addr} {cap : Nat} {zs : List Int} (h : OwnInts w base A cap zs) : OwnInts w.drew base A cap zs := h

set_option maxHeartbeats 4000000 in
set_option maxRecDepth 100000 in
theorem walkProofChange (A : Option Addr) (len cap : Nat) (A1 : Option Addr) (len1 cap1 : Nat) (w : World) (hTab : Tab w) (hI : In w A len cap) (hI1 : In w A1 len1 cap1) :
    Calls Tryd.prog 6 #[.slice A len cap, .slice A1 len1 cap1] w fun e w' => e = .returned (.bool true) ∧ Below w.heap.size w w' := by
  have hm := hI.len_le
  have hm1 := hI1.len_le
  have HLM := Lib.hid hm
  unfold maxLen at hm hm1
  have HI := Lib.hid hI
  have HTB := Lib.hid hTab
  clear hI hTab hI1
  by_cases hlen : len ≤ 1048576
  · by_cases hlen1 : len1 ≤ 1048576
    · go_enter Tryd.func6, Tryd.ntmps6
      go_wp2_with fail
      refine (drawtc_any A len cap _ HI.out).mono ?_
      rintro e w1 ⟨dg, n, q, leaf, X, cx, zs, rfl, hz, hn0, hn1, hown1, hb1⟩
      have HO1 := Lib.hid hown1
      have HB1 := Lib.hid hb1
      have HC1 := Lib.hid hown1.le.1
      have HC2 := Lib.hid hown1.le.2
      have HL := Lib.hid (Nat.le_trans hown1.le.1 hown1.le.2)
      clear hown1 hb1
      obtain ⟨bb, HBB⟩ : ∃ b, Hid (treeOkB dg n q leaf zs = b) := ⟨_, rfl⟩
      go_wp2_with fail
      refine (tcheck_any dg n q leaf zs X cx _ (HTB.out.below HB1.out) HO1.out.ints HO1.out.formA HC1.out HC2.out).mono ?_
      rintro e w2 ⟨rfl, hb2⟩
      rw [HBB.out]
      have HO2 := Lib.hid (HO1.out.below hb2)
      have HB2 : Hid (Below w.heap.size w w2) := HB1.out.trans (hb2.mono HB1.out.size)
      clear hb2
      go_wp2_with fail
      refine (stcheck_any dg n q leaf zs X cx _ HO2.out.ints HL.out (by omega) (by omega)).mono ?_
      rintro e w3 ⟨rfl, rfl⟩
      rw [HBB.out]
      cases bb with
      | false =>
        go_wp2_with fail
        refine (stcheck_any dg n q leaf zs X cx _ HO2.out.ints HL.out (by omega) (by omega)).mono ?_
        rintro e w3 ⟨rfl, rfl⟩
        rw [HBB.out]
        go_wp2
        go_ret
        exact ⟨rfl, HB2.out⟩
      | true =>
        have HD : Hid (Digs zs) := digB_yes ((treeOkB_iff _ _ _ _ _).1 HBB.out).1.2.2.2
        obtain ⟨w6, HW⟩ : ∃ W, Hid (w2 = W) := ⟨_, rfl⟩
        rw [HW.out] at HO2 HB2 ⊢
        obtain ⟨N, HN⟩ : ∃ N, Hid (zs.length = N) := ⟨_, rfl⟩
        rw [HN.out] at hz ⊢
        by_cases hn0 : N = 0
        · subst hn0
          have hn : n = 1 := by
            have h0 : zs = [] := List.eq_nil_of_length_eq_zero HN.out
            have := HBB.out
            rw [h0] at this
            exact ok_none this
          subst hn
          go_wp2
          go_ret
          exact ⟨rfl, HB2.out⟩
        · have hnb : ((N : Int) == 0) = false := by rw [beq_eq_false_iff_ne]; omega
          obtain ⟨i, HI2⟩ : ∃ i, Hid (len1 % N = i) := ⟨_, rfl⟩
          have hin : i < N := by rw [← HI2.out]; exact Nat.mod_lt _ (by omega)
          have HKE : Hid ((len1 : Int) % (N : Int) = (i : Int)) := by show _ = _; rw [← HI2.out, Int.natCast_emod]
          have hiz : i < zs.length := by rw [HN.out]; exact hin
          obtain ⟨hv0, hv1⟩ := HD.out.at_ i hiz
          obtain ⟨y, HY⟩ : ∃ y, Hid (otherZ (nth zs i) len = y) := ⟨_, rfl⟩
          have hy0 : 0 ≤ y ∧ y < 991 := by rw [← HY.out]; exact otherZ_bd _ _
          have hyn : y ≠ nth zs i := by rw [← HY.out]; exact otherZ_ne _ _
          have hyb : (y == nth zs i) = false := by rw [beq_eq_false_iff_ne]; exact hyn
          have HR2 : Hid (treeOkB dg n q leaf (zs.set i y) = false) := ok_change HBB.out hiz hy0 (fun e => hyn e.symm)
          obtain ⟨b, hX⟩ := HO2.out.some_ (by rw [HN.out]; omega)
          subst hX
          have hcz : w6.cell? ⟨b, i, none⟩ = some (.int .i64 (nth zs i)) := by
            have h1 := (HO2.out.ints.lt (by omega)).2 i hiz
            rw [Nat.zero_add] at h1
            exact h1
          have hbw := (HO2.out.ints.lt (by omega)).1
          have hki0 : (0 : Int) ≤ (i : Int) := by omega
          have hki1 : (i : Int) < (N : Int) := by omega
          have HCZ := Lib.hid hcz
          have HIZ := Lib.hid hiz
          clear hcz hiz hyn
          go_wp2_with (at_builtin; refine wpList_app_ints rfl (.tmp 65) (.tmp 66) rfl _ w6.heap.size _ _ [] rfl _ _ zs (by rw [HN.out]; rfl) (OwnInts.new w6) (HO2.out.ints.allocS _) (by rw [HN.out]; simp; omega) (by simp) (by simp) ?_; intro v w7 hA; rw [List.nil_append] at hA; obtain ⟨⟨A7, c7, rfl, hown7⟩, hg7, hb7⟩ := hA; obtain ⟨b7, hA7⟩ := hown7.some_ (by rw [HN.out]; omega); subst hA7; have HO7 := Lib.hid hown7; have HB7 : Hid (Below w6.heap.size w6 w7) := ((Below.refl _ w6).alloc (Nat.le_refl _) _).trans hb7; have hb7f := hown7.far (n := 0) b7 rfl; have hc7 : w7.cell? ⟨b7, i, none⟩ = some (.int .i64 (nth zs i)) := (by have h1 := (hown7.ints.lt (by rw [HN.out]; omega)).2 i HIZ.out; rw [Nat.zero_add] at h1; exact h1); have hf7 : w7.frozen? ⟨b7, i, none⟩ = false := World.ownsRow.frozenAt hown7 i; have hcz7 : w7.cell? ⟨b, i, none⟩ = some (.int .i64 (nth zs i)) := ((HB7.out.cell (p := ⟨b, i, none⟩) hbw).trans HCZ.out); clear hown7 hg7 hb7; rw [HN.out, HKE.out])
          refine (other_any _ _ _ hv0 hv1 HLM.out).mono ?_
          rintro e w' ⟨rfl, rfl⟩
          rw [HY.out]
          have HS : Hid (OwnInts (w7.setCell ⟨b7, i, none⟩ (.int .i64 y)) w6.heap.size (some ⟨b7, 0, none⟩) c7 (zs.set i y)) := HO7.out.stored i y
          have C : Hid (∀ V : World, Tab V → OwnInts V w6.heap.size (some ⟨b7, 0, none⟩) c7 (zs.set i y) → Calls Tryd.prog 13 #[.int .i64 dg, .int .i64 n, .int .i64 q, .int .i64 leaf, .slice (some ⟨b7, 0, none⟩) N c7] V fun e w' => e = .returned (.bool false) ∧ Below V.heap.size V w') := fun V hT hV => by
            have := tcheck_any dg n q leaf (zs.set i y) (some ⟨b7, 0, none⟩) c7 V hT hV.ints (.inr ⟨b7, 0, rfl⟩) hV.le.1 hV.le.2
            rw [List.length_set, HN.out, HR2.out] at this
            exact this
          have HBS : Hid (Below w6.heap.size w6 (w7.setCell ⟨b7, i, none⟩ (.int .i64 y))) := HB7.out.setCell (p := ⟨b7, i, none⟩) hb7f _
          obtain ⟨V, HV⟩ : ∃ V, Hid (w7.setCell ⟨b7, i, none⟩ (.int .i64 y) = V) := ⟨_, rfl⟩
          have d1 : V.cell? ⟨b7, i, none⟩ = some (.int .i64 y) := by
            have h1 := (HS.out.ints.lt (by rw [List.length_set, HN.out]; omega)).2 i (by rw [List.length_set]; exact HIZ.out)
            rw [Nat.zero_add] at h1
            rw [HV.out] at h1
            have h2 : nth (zs.set i y) i = y := by unfold nth; rw [List.getD_eq_getElem?_getD, List.getElem?_set_self HIZ.out]; rfl
            rw [h2] at h1
            exact h1
          have d2 : V.cell? ⟨b, i, none⟩ = some (.int .i64 (nth zs i)) := by
            rw [← HV.out, World.cell?_setCell_other w7 ⟨b7, i, none⟩ ⟨b, i, none⟩ _ (fun e => by injection e with e1 _ _; omega)]
            exact hcz7
          have hne7 : b7 ≠ b := by omega
          go_wp2_with fail
          rw [HV.out] at HS HBS ⊢
          have HTV : Hid (Tab V.drew) := HTB.out.below (below_drew (HB2.out.trans (HBS.out.mono HB2.out.size)))
          clear hc7 hf7 hcz7
          go_region_held3 (fun w' => w'.cell? ⟨b7, i, none⟩ = some (.int .i64 y) ∧ w'.cell? ⟨b, i, none⟩ = some (.int .i64 (nth zs i))) (go_keep)
            (first | (go_at_call 13; (with_reducible refine (C.out V.drew HTV.out (own_drew HS.out)).mono ?_); rintro e w8 ⟨rfl, hb8⟩; have HB8 : Hid (Below V.heap.size V w8) := below_drew_l hb8; have e1 : w8.cell? ⟨b7, i, none⟩ = some (.int .i64 y) := ((HB8.out.cell (p := ⟨b7, i, none⟩) (World.block_lt_of_cell? V _ d1)).trans d1); have e2 : w8.cell? ⟨b, i, none⟩ = some (.int .i64 (nth zs i)) := ((HB8.out.cell (p := ⟨b, i, none⟩) (World.block_lt_of_cell? V _ d2)).trans d2); clear hb8))
          go_wp2
          go_ret
          exact ⟨rfl, HB2.out.trans ((HBS.out.trans (HB8.out.mono HBS.out.size)).mono HB2.out.size)⟩
    · have h9 : 1048576 < len1 := by omega
      clear hlen1
      go_enter Tryd.func6, Tryd.ntmps6
      go_wp2
      go_ret
      exact ⟨rfl, Below.refl _ _⟩
  · have h9 : 1048576 < len := by omega
    clear hlen
    go_enter Tryd.func6, Tryd.ntmps6
    go_wp2
    go_ret
    exact ⟨rfl, Below.refl _ _⟩

end Go.Proofs.YtlkgadgjcjpdcaaDoor
