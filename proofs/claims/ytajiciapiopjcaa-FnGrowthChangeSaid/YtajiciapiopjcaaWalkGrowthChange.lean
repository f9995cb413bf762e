/- The walk of FnGrowthChange: it returns true and changes nothing that was there. Condition: the codes' bytes lie in memory. -/
import Derived.Test.YtajiciapiopjcaaSpecCheck
import Derived.Test.YtajiciapiopjcaaDrawGrowthCheck
import Derived.Test.YtajiciapiopjcaaOther
import Derived.Test.YtajiciapiopjcaaIn
import Derived.Deep.RegionHeld3
namespace Go.Proofs.Ytajiciapiopjcaa
open Go.RowKit
set_option linter.unusedVariables false

theorem own_drew {w : World} {base : Nat} {A : Option Addr} {cap : Nat} {zs : List Int} (h : OwnInts w base A cap zs) : OwnInts w.drew base A cap zs := h

set_option maxHeartbeats 4000000 in
set_option maxRecDepth 100000 in
theorem walkGrowthChange (A : Option Addr) (len cap : Nat) (A1 : Option Addr) (len1 cap1 : Nat) (w : World) (hI : In w A len cap) (hI1 : In w A1 len1 cap1) :
    Calls Try.prog 6 #[.slice A len cap, .slice A1 len1 cap1] w fun e w' => e = .returned (.bool true) ∧ Below w.heap.size w w' := by
  have hm := hI.len_le
  have hm1 := hI1.len_le
  have HM1 := Lib.hid hm1
  unfold maxLen at hm hm1
  have HI := Lib.hid hI
  clear hI hI1
  by_cases hlen : len ≤ 1048576
  · by_cases hlen1 : len1 ≤ 1048576
    · go_enter Try.func6, Try.ntmps6
      go_wp2_with fail
      refine (drawgc_any A len cap _ HI.out).mono ?_
      rintro e w1 ⟨m, old, n, dg, X, cx, zs, rfl, hz, hown1, hb1⟩
      have HO1 := Lib.hid hown1
      have HB1 := Lib.hid hb1
      have HC1 := Lib.hid hown1.le.1
      have HC2 := Lib.hid hown1.le.2
      clear hown1 hb1
      obtain ⟨bb, HBB⟩ : ∃ b, Hid (growOkB m old n dg zs = b) := ⟨_, rfl⟩
      go_wp2_with fail
      refine (gcheck_any zs m old n dg X cx _ HO1.out.ints HC1.out HC2.out).mono ?_
      rintro e w2 ⟨rfl, hb2⟩
      rw [HBB.out]
      have HO2 := Lib.hid (HO1.out.below hb2)
      have HB2 : Hid (Below w.heap.size w w2) := HB1.out.trans (hb2.mono HB1.out.size)
      clear hb2
      go_wp2_with fail
      refine (sgcheck_any zs m old n dg X cx _ HO2.out.ints HC1.out HC2.out).mono ?_
      rintro e w3 ⟨rfl, hb3⟩
      rw [HBB.out]
      have HO3 := Lib.hid (HO2.out.below hb3)
      have HB3 : Hid (Below w.heap.size w w3) := HB2.out.trans (hb3.mono HB2.out.size)
      clear hb3
      cases bb with
      | false =>
        go_wp2_with fail
        refine (sgcheck_any zs m old n dg X cx _ HO3.out.ints HC1.out HC2.out).mono ?_
        rintro e w4 ⟨rfl, hb4⟩
        rw [HBB.out]
        have HB4 : Hid (Below w.heap.size w w4) := HB3.out.trans (hb4.mono HB3.out.size)
        clear hb4
        go_wp2
        go_ret
        exact ⟨rfl, HB4.out⟩
      | true =>
        obtain ⟨j, k, rfl, rfl, hk16, hjk, hd, hlen, hfo, hfd⟩ := growOkB_true HBB.out
        have hob := foldZ_bd (j : Int) (zs.take (sizesOf 0 j).length) (by omega) (by omega)
        have hdb := foldZ_bd (k : Int) (mergeZ (growSizes j k) zs) (by omega) (by omega)
        rw [hfo] at hob
        rw [hfd] at hdb
        have HD := Lib.hid hd
        have HLEN := Lib.hid hlen
        have HFO := Lib.hid hfo
        have HFD := Lib.hid hfd
        obtain ⟨ho0, ho1⟩ := hob
        obtain ⟨hd0, hd1⟩ := hdb
        clear hd hlen hfo hfd
        obtain ⟨u1, HU1⟩ : ∃ u : List Int, Hid (zs ++ [(1 : Int)] = u) := ⟨zs ++ [(1 : Int)], Lib.hid rfl⟩
        have HR1 : Hid (growOkB (j : Int) old (k : Int) dg u1 = false) := by
          show _ = _
          cases e : growOkB (j : Int) old (k : Int) dg u1 with
          | false => rfl
          | true =>
            obtain ⟨j', k', hj', hk', h16', _, _, hl', _⟩ := growOkB_true e
            have ej : j' = j := by omega
            have ek : k' = k := by omega
            rw [ej, ek, ← HLEN.out, ← HU1.out, List.length_append] at hl'
            simp at hl'
        obtain ⟨W, HW⟩ : ∃ W, Hid (w3 = W) := ⟨_, rfl⟩
        rw [HW.out] at HO3 HB3 ⊢
        have HLM : Hid (len ≤ maxLen) := by show len ≤ maxLen; unfold maxLen; omega
        obtain ⟨N, HN⟩ : ∃ N, Hid (zs.length = N) := ⟨_, rfl⟩
        rw [HN.out] at hz ⊢
        go_wp2_with (first
          | (at_builtin; refine wpList_app_ints rfl (.tmp 59) (.tmp 60) rfl _ W.heap.size _ _ [] rfl X cx zs (by rw [HN.out]; rfl) (OwnInts.new W) (HO3.out.ints.allocS _) (by rw [HN.out]; simp; omega) (by simp) HO3.out.none0 ?_; intro v w4 hA; rw [List.nil_append] at hA; obtain ⟨⟨A4, c4, rfl, hown4⟩, hg4, hb4⟩ := hA; have HO4 := Lib.hid hown4; have HB4 : Hid (Below W.heap.size W w4) := ((Below.refl _ W).alloc (Nat.le_refl _) _).trans hb4; clear hown4 hg4 hb4; have hs4 : W.heap.size ≤ w4.heap.size := HB4.out.size)
          | (at_builtin; refine wpList_app_ints rfl (.tmp 61) (.tmp 62) rfl _ W.heap.size A4 c4 zs rfl _ _ [1] rfl (HO4.out.alloc _) (one_new _ _) (by rw [HN.out]; simp; omega) (by simp; omega) (by simp) ?_; intro v w5 hA; rw [HU1.out] at hA; obtain ⟨⟨A5, c5, rfl, hown5⟩, hg5, hb5⟩ := hA; have HO5 := Lib.hid hown5; have HB5 : Hid (Below W.heap.size W w5) := (HB4.out.alloc (by omega) _).trans hb5; clear hown5 hg5 hb5))
        refine (gcheck_any u1 _ _ _ _ A5 c5 _ HO5.out.ints HO5.out.le.1 HO5.out.le.2).mono ?_
        rintro e w6 ⟨rfl, hb6⟩
        rw [HR1.out]
        have HB6 : Hid (Below W.heap.size W w6) := HB5.out.trans (hb6.mono HB5.out.size)
        clear hb6
        by_cases hn0 : N = 0
        · subst hn0
          have hk0 : k = 0 := by
            have hsum := of_decide_eq_true (allMN_get look_sum hk16 hjk)
            have h0 : (growSizes j k).length = 0 := by rw [← HLEN.out, HN.out]
            rw [List.eq_nil_of_length_eq_zero h0] at hsum
            simp [sumN] at hsum
            omega
          subst hk0
          go_wp2
          go_ret
          exact ⟨rfl, HB3.out.trans (HB6.out.mono HB3.out.size)⟩
        · have hnb : ((N : Int) == 0) = false := by rw [beq_eq_false_iff_ne]; omega
          obtain ⟨i, HI2⟩ : ∃ i, Hid (len1 % N = i) := ⟨_, rfl⟩
          have hin : i < N := by rw [← HI2.out]; exact Nat.mod_lt _ (by omega)
          have HKE : Hid ((len1 : Int) % (N : Int) = (i : Int)) := by show _ = _; rw [← HI2.out, Int.natCast_emod]
          have hiz : i < zs.length := by rw [HN.out]; exact hin
          obtain ⟨hv0, hv1⟩ := HD.out.at_ i hiz
          obtain ⟨y, HY⟩ : ∃ y, Hid (otherZ (nth zs i) len = y) := ⟨_, rfl⟩
          have hy0 : 0 ≤ y ∧ y < 991 := by rw [← HY.out]; exact otherZ_bd _ _
          have hyn : y ≠ nth zs i := by rw [← HY.out]; exact otherZ_ne _ _
          have hyb : (y == nth zs i) = false := by rw [beq_eq_false_iff_ne]; exact hyn
          have HR2 : Hid (growOkB (j : Int) old (k : Int) dg (zs.set i y) = false) := by
            show _ = _
            cases e : growOkB (j : Int) old (k : Int) dg (zs.set i y) with
            | false => rfl
            | true =>
              have h1 := (growOkB_of hk16 hjk (HD.out.set i hy0) e).2.2
              exact absurd (h1.trans HFD.out.symm) (grow_change j k i y zs hk16 hjk HLEN.out hiz HD.out hy0 (fun e => hyn e.symm))
          obtain ⟨b, hX⟩ := HO3.out.some_ (by rw [HN.out]; omega)
          subst hX
          have HO6 := Lib.hid (HO3.out.below HB6.out)
          have hcz : w6.cell? ⟨b, i, none⟩ = some (.int .i64 (nth zs i)) := by
            have h1 := (HO6.out.ints.lt (by omega)).2 i hiz
            rw [Nat.zero_add] at h1
            exact h1
          have hbw := (HO6.out.ints.lt (by omega)).1
          have hki0 : (0 : Int) ≤ (i : Int) := by omega
          have hki1 : (i : Int) < (N : Int) := by omega
          have HCZ := Lib.hid hcz
          have HIZ := Lib.hid hiz
          clear hcz hiz hyn
          go_wp2_with (at_builtin; refine wpList_app_ints rfl (.tmp 75) (.tmp 76) rfl _ w6.heap.size _ _ [] rfl _ _ zs (by rw [HN.out]; rfl) (OwnInts.new w6) (HO6.out.ints.allocS _) (by rw [HN.out]; simp; omega) (by simp) (by simp) ?_; intro v w7 hA; rw [List.nil_append] at hA; obtain ⟨⟨A7, c7, rfl, hown7⟩, hg7, hb7⟩ := hA; obtain ⟨b7, hA7⟩ := hown7.some_ (by rw [HN.out]; omega); subst hA7; have HO7 := Lib.hid hown7; have HB7 : Hid (Below w6.heap.size w6 w7) := ((Below.refl _ w6).alloc (Nat.le_refl _) _).trans hb7; have hb7f := hown7.far (n := 0) b7 rfl; have hc7 : w7.cell? ⟨b7, i, none⟩ = some (.int .i64 (nth zs i)) := (by have h1 := (hown7.ints.lt (by rw [HN.out]; omega)).2 i HIZ.out; rw [Nat.zero_add] at h1; exact h1); have hf7 : w7.frozen? ⟨b7, i, none⟩ = false := World.ownsRow.frozenAt hown7 i; have hcz7 : w7.cell? ⟨b, i, none⟩ = some (.int .i64 (nth zs i)) := ((HB7.out.cell (p := ⟨b, i, none⟩) hbw).trans HCZ.out); clear hown7 hg7 hb7; rw [HN.out, HKE.out])
          refine (other_any _ _ _ hv0 hv1 HLM.out).mono ?_
          rintro e w' ⟨rfl, rfl⟩
          rw [HY.out]
          have HS : Hid (OwnInts (w7.setCell ⟨b7, i, none⟩ (.int .i64 y)) w6.heap.size (some ⟨b7, 0, none⟩) c7 (zs.set i y)) := HO7.out.stored i y
          have C : Hid (∀ V : World, OwnInts V w6.heap.size (some ⟨b7, 0, none⟩) c7 (zs.set i y) → Calls Try.prog 17 #[.int .i64 (j : Int), .int .i64 old, .int .i64 (k : Int), .int .i64 dg, .slice (some ⟨b7, 0, none⟩) N c7] V fun e w' => e = .returned (.bool false) ∧ Below V.heap.size V w') := fun V hV => by
            have := gcheck_any (zs.set i y) (j : Int) old (k : Int) dg (some ⟨b7, 0, none⟩) c7 V hV.ints hV.le.1 hV.le.2
            rw [List.length_set, HN.out, HR2.out] at this
            exact this
          have HBS : Hid (Below w6.heap.size w6 (w7.setCell ⟨b7, i, none⟩ (.int .i64 y))) := HB7.out.setCell (p := ⟨b7, i, none⟩) hb7f _
          obtain ⟨V, HV⟩ : ∃ V, Hid (w7.setCell ⟨b7, i, none⟩ (.int .i64 y) = V) := ⟨_, rfl⟩
          have d1 : V.cell? ⟨b7, i, none⟩ = some (.int .i64 y) := by
            have h1 := (HS.out.ints.lt (by rw [List.length_set, HN.out]; omega)).2 i (by rw [List.length_set]; exact HIZ.out)
            rw [Nat.zero_add] at h1
            rw [HV.out] at h1
            have h2 : nth (zs.set i y) i = y := by unfold nth; rw [List.getD_eq_getElem?_getD, List.getElem?_set_self HIZ.out]; rfl
            rw [h2] at h1
            exact h1
          have d2 : V.cell? ⟨b, i, none⟩ = some (.int .i64 (nth zs i)) := by
            rw [← HV.out, World.cell?_setCell_other w7 ⟨b7, i, none⟩ ⟨b, i, none⟩ _ (fun e => by injection e with e1 _ _; omega)]
            exact hcz7
          have hne7 : b7 ≠ b := by omega
          go_wp2_with fail
          rw [HV.out] at HS HBS ⊢
          clear hc7 hf7 hcz7
          go_region_held3 (fun w' => w'.cell? ⟨b7, i, none⟩ = some (.int .i64 y) ∧ w'.cell? ⟨b, i, none⟩ = some (.int .i64 (nth zs i))) (go_keep)
            (first | (go_at_call 17; (with_reducible refine (C.out V.drew (own_drew HS.out)).mono ?_); rintro e w8 ⟨rfl, hb8⟩; have HB8 : Hid (Below V.heap.size V w8) := below_drew_l hb8; have e1 : w8.cell? ⟨b7, i, none⟩ = some (.int .i64 y) := ((HB8.out.cell (p := ⟨b7, i, none⟩) (World.block_lt_of_cell? V _ d1)).trans d1); have e2 : w8.cell? ⟨b, i, none⟩ = some (.int .i64 (nth zs i)) := ((HB8.out.cell (p := ⟨b, i, none⟩) (World.block_lt_of_cell? V _ d2)).trans d2); clear hb8))
          go_wp2
          go_ret
          exact ⟨rfl, HB3.out.trans ((HB6.out.trans ((HBS.out.trans (HB8.out.mono HBS.out.size)).mono HB6.out.size)).mono HB3.out.size)⟩
    · have h9 : 1048576 < len1 := by omega
      clear hlen1
      go_enter Try.func6, Try.ntmps6
      go_wp2
      go_ret
      exact ⟨rfl, Below.refl _ _⟩
  · have h9 : 1048576 < len := by omega
    clear hlen
    go_enter Try.func6, Try.ntmps6
    go_wp2
    go_ret
    exact ⟨rfl, Below.refl _ _⟩

end Go.Proofs.Ytajiciapiopjcaa
