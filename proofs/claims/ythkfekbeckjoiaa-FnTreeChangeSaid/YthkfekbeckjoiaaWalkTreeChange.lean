/- The walk of FnTreeChange: it returns true and changes nothing that was there. Condition: the codes' bytes lie in memory. -/
import Derived.Test.YthkfekbeckjoiaaPeaks
import Derived.Test.YthkfekbeckjoiaaPeakLaws
import Derived.Test.YthkfekbeckjoiaaDrawDigest
import Derived.Test.YthkfekbeckjoiaaPairs
import Derived.Test.YthkfekbeckjoiaaIn
import Derived.Test.YthkfekbeckjoiaaOther
namespace Go.Proofs.Ythkfekbeckjoiaa
open Go.RowKit
set_option linter.unusedVariables false

theorem own_drew {w : World} {base : Nat} {A : Option Addr} {cap : Nat} {zs : List Int} (h : OwnInts w base A cap zs) : OwnInts w.drew base A cap zs := h

set_option maxHeartbeats 4000000 in
set_option maxRecDepth 100000 in
theorem walkTreeChange (A : Option Addr) (len cap : Nat) (A1 : Option Addr) (len1 cap1 : Nat) (w : World) (hI : In w A len cap) (hI1 : In w A1 len1 cap1) :
    Calls Try.prog 7 #[.slice A len cap, .slice A1 len1 cap1] w fun e w' => e = .returned (.bool true) ∧ Below w.heap.size w w' := by
  have hm := hI.len_le
  have hm1 := hI1.len_le
  have HM1 := Lib.hid hm1
  unfold maxLen at hm hm1
  have HI := Lib.hid hI
  clear hI hI1
  by_cases hlen : len ≤ 1048576
  · by_cases hlen1 : len1 ≤ 1048576
    · go_enter Try.func7, Try.ntmps7
      go_wp2_with fail
      refine (drawdigest_any A len cap _ HI.out).mono ?_
      rintro e w1 ⟨b, c, zs, rfl, hz28, hnear, hown1, hb1⟩
      have HO1 := Lib.hid hown1
      have HB1 := Lib.hid hb1
      have HNR := Lib.hid hnear
      clear hown1 hb1 hnear
      go_wp2_with fail
      refine (digest_any zs b 0 c _ HO1.out.ints HO1.out.le.1 HO1.out.le.2).mono ?_
      rintro e w2 ⟨rfl, hb2⟩
      have HB2 := Lib.hid hb2
      clear hb2
      go_wp2_with fail
      refine (sdigest_any zs b 0 c _ (HO1.out.below HB2.out).ints HO1.out.le.1 HO1.out.le.2).mono ?_
      rintro e w3 ⟨rfl, hb3⟩
      have HZ3 := Lib.hid ((HO1.out.below HB2.out).below hb3)
      have HB : Hid (Below w.heap.size w w3) := (HB1.out.trans (HB2.out.mono HB1.out.size)).trans (hb3.mono (Nat.le_trans HB1.out.size HB2.out.size))
      clear hb3
      rcases digestOr_cases zs with h | ⟨h16, hd, h, hz0, hz1⟩
      · rw [h]
        clear h
        go_wp2
        go_ret
        exact ⟨rfl, HB.out⟩
      · rw [h]
        have HD := Lib.hid hd
        obtain ⟨t, HT⟩ : ∃ t, Hid (digestZ zs = t) := ⟨_, rfl⟩
        rw [HT.out] at hz0 hz1 ⊢
        have hneg : decide (t < 0) = false := by simp; omega
        clear h hd hz28
        obtain ⟨n, HN⟩ : ∃ n, Hid (zs.length = n) := ⟨_, rfl⟩
        rw [HN.out] at h16 ⊢
        by_cases hn0 : n = 0
        · subst hn0
          go_wp2
          go_ret
          exact ⟨ret_bool (by simp), HB.out⟩
        · have hnb : ((n : Int) == 0) = false := by rw [beq_eq_false_iff_ne]; omega
          obtain ⟨k, HK⟩ : ∃ k, Hid (len1 % n = k) := ⟨_, rfl⟩
          have hkn : k < n := by rw [← HK.out]; exact Nat.mod_lt _ (by omega)
          have HKE : Hid ((len1 : Int) % (n : Int) = (k : Int)) := by show _ = _; rw [← HK.out, Int.natCast_emod]
          have hkz : k < zs.length := by rw [HN.out]; exact hkn
          obtain ⟨hv0, hv1⟩ := HD.out.at_ k hkz
          obtain ⟨y, HY⟩ : ∃ y, Hid (otherZ (nth zs k) len = y) := ⟨_, rfl⟩
          have hy0 : 0 ≤ y ∧ y < 991 := by rw [← HY.out]; exact otherZ_bd _ _
          have hyn : y ≠ nth zs k := by rw [← HY.out]; exact otherZ_ne _ _
          have hyb : (y == nth zs k) = false := by rw [beq_eq_false_iff_ne]; exact hyn
          have hch := digest_change zs k y (by rw [HN.out]; exact h16) hkz HD.out hy0 (fun e => hyn e.symm)
          have hdo : digestOr (zs.set k y) = digestZ (zs.set k y) := digestOr_of (by rw [List.length_set, HN.out]; exact h16) (HD.out.set k hy0)
          rw [← hdo, HT.out] at hch
          obtain ⟨t2, HT2⟩ : ∃ t2, Hid (digestOr (zs.set k y) = t2) := ⟨_, rfl⟩
          rw [HT2.out] at hch
          have hchb : (t2 != t) = true := by rw [bne_iff_ne]; exact hch
          have HLM : Hid (len ≤ maxLen) := by show len ≤ maxLen; unfold maxLen; omega
          obtain ⟨W, HW⟩ : ∃ W, Hid (w3 = W) := ⟨_, rfl⟩
          rw [HW.out] at HZ3 HB ⊢
          have hki0 : (0 : Int) ≤ (k : Int) := by omega
          have hki1 : (k : Int) < (n : Int) := by omega
          have hcz : W.cell? ⟨b, k, none⟩ = some (.int .i64 (nth zs k)) := by
            have h1 := (HZ3.out.ints.lt (by omega)).2 k hkz
            rw [Nat.zero_add] at h1
            exact h1
          have hbw := (HZ3.out.ints.lt (by omega)).1
          have HCZ := Lib.hid hcz
          have HKZ := Lib.hid hkz
          clear hch hdo hyn hcz hkz
          go_wp2_with (at_builtin; refine wpList_app_ints rfl (.tmp 44) (.tmp 45) rfl _ W.heap.size _ _ [] rfl _ _ zs (by rw [HN.out]; rfl) (OwnInts.new W) (HZ3.out.ints.allocS _) (by rw [HN.out]; simp; omega) (by simp) (by simp) ?_; intro v w4 hA; rw [List.nil_append] at hA; obtain ⟨⟨A4, c4, rfl, hown4⟩, hg4, hb4⟩ := hA; obtain ⟨b4, hA4⟩ := hown4.some_ (by rw [HN.out]; omega); subst hA4; have HO4 := Lib.hid hown4; have HB4 : Hid (Below W.heap.size W w4) := ((Below.refl _ W).alloc (Nat.le_refl _) _).trans hb4; have hb4f := hown4.far (n := 0) b4 rfl; have hc4 : w4.cell? ⟨b4, k, none⟩ = some (.int .i64 (nth zs k)) := (by have h1 := (hown4.ints.lt (by rw [HN.out]; omega)).2 k HKZ.out; rw [Nat.zero_add] at h1; exact h1); have hf4 : w4.frozen? ⟨b4, k, none⟩ = false := World.ownsRow.frozenAt hown4 k; have hcz4 : w4.cell? ⟨b, k, none⟩ = some (.int .i64 (nth zs k)) := ((HB4.out.cell (p := ⟨b, k, none⟩) hbw).trans HCZ.out); clear hown4 hg4 hb4; rw [HN.out, HKE.out])
          refine (other_any _ _ _ hv0 hv1 HLM.out).mono ?_
          rintro e w' ⟨rfl, rfl⟩
          rw [HY.out]
          have hne4 : b4 ≠ b := by omega
          have HS : Hid (OwnInts (w4.setCell ⟨b4, k, none⟩ (.int .i64 y)) W.heap.size (some ⟨b4, 0, none⟩) c4 (zs.set k y)) := HO4.out.stored k y
          have C : Hid (∀ V : World, OwnInts V W.heap.size (some ⟨b4, 0, none⟩) c4 (zs.set k y) → Calls Try.prog 18 #[.slice (some ⟨b4, 0, none⟩) n c4] V fun e w' => e = .returned (.int .i64 t2) ∧ Below V.heap.size V w') := fun V hV => by
            have := digest_any (zs.set k y) b4 0 c4 V hV.ints hV.le.1 hV.le.2
            rw [List.length_set, HN.out, HT2.out] at this
            exact this
          have HBS : Hid (Below W.heap.size W (w4.setCell ⟨b4, k, none⟩ (.int .i64 y))) := HB4.out.setCell (p := ⟨b4, k, none⟩) hb4f _
          obtain ⟨V, HV⟩ : ∃ V, Hid (w4.setCell ⟨b4, k, none⟩ (.int .i64 y) = V) := ⟨_, rfl⟩
          have d1 : V.cell? ⟨b4, k, none⟩ = some (.int .i64 y) := by
            have h1 := (HS.out.ints.lt (by rw [List.length_set, HN.out]; omega)).2 k (by rw [List.length_set]; exact HKZ.out)
            rw [Nat.zero_add] at h1
            rw [HV.out] at h1
            have h2 : nth (zs.set k y) k = y := by unfold nth; rw [List.getD_eq_getElem?_getD, List.getElem?_set_self HKZ.out]; rfl
            rw [h2] at h1
            exact h1
          have d2 : V.cell? ⟨b, k, none⟩ = some (.int .i64 (nth zs k)) := by
            rw [← HV.out, World.cell?_setCell_other w4 ⟨b4, k, none⟩ ⟨b, k, none⟩ _ (fun e => by injection e with e1 _ _; omega)]
            exact hcz4
          go_wp2_with fail
          rw [HV.out] at HS HBS ⊢
          clear hc4 hf4 hcz4
          go_region_held3 (fun w' => w'.cell? ⟨b4, k, none⟩ = some (.int .i64 y) ∧ w'.cell? ⟨b, k, none⟩ = some (.int .i64 (nth zs k))) (go_keep)
            (first | (go_at_call 18; (with_reducible refine (C.out V.drew (own_drew HS.out)).mono ?_); rintro e w6 ⟨rfl, hb6⟩; have HB6 : Hid (Below V.heap.size V w6) := below_drew_l hb6; have e1 : w6.cell? ⟨b4, k, none⟩ = some (.int .i64 y) := ((HB6.out.cell (p := ⟨b4, k, none⟩) (World.block_lt_of_cell? V _ d1)).trans d1); have e2 : w6.cell? ⟨b, k, none⟩ = some (.int .i64 (nth zs k)) := ((HB6.out.cell (p := ⟨b, k, none⟩) (World.block_lt_of_cell? V _ d2)).trans d2); clear hb6))
          go_wp2
          go_ret
          exact ⟨rfl, HB.out.trans ((HBS.out.trans (HB6.out.mono HBS.out.size)).mono HB.out.size)⟩
    · have h9 : 1048576 < len1 := by omega
      clear hlen1
      go_enter Try.func7, Try.ntmps7
      go_wp2
      go_ret
      exact ⟨rfl, Below.refl _ _⟩
  · have h9 : 1048576 < len := by omega
    clear hlen
    go_enter Try.func7, Try.ntmps7
    go_wp2
    go_ret
    exact ⟨rfl, Below.refl _ _⟩

end Go.Proofs.Ythkfekbeckjoiaa
