/- The walks of FnCount and FnCountParts: each returns true and changes nothing that was there. Condition: the codes' bytes lie in memory. -/
import Derived.Test.YtmgdngmcgokeeaaBitsLaws
import Derived.Test.YtmgdngmcgokeeaaDrawBits
import Derived.Test.YtmgdngmcgokeeaaExactBools
import Derived.Test.YtmgdngmcgokeeaaIn
namespace Go.Proofs.Ytmgdngmcgokeeaa
open Go.RowKit
set_option linter.unusedVariables false

/-- What append([]bool{}, zs...) leaves. -/
theorem copied_bools {w2 w3 : World} {o : Obj} {A : Option Addr} {c : Nat} {zs : List Bool} {v : Value} {m : Nat} (hm : zs.length = m) (h0 : 0 < m) (hA : AppendedB (w2.alloc o) w2.heap.size A 0 c ([] ++ zs) v w3) :
    ∃ bx cx, v = .slice (some ⟨bx, 0, none⟩) m cx ∧ OwnBools w3 w2.heap.size (some ⟨bx, 0, none⟩) cx zs ∧ Below w2.heap.size w2 w3 ∧ w2.heap.size ≤ bx := by
  obtain ⟨⟨X, cx, hv, hown3⟩, hg3, hbel3⟩ := hA
  rw [List.nil_append] at hown3 hv
  obtain ⟨bx, rfl⟩ := hown3.some_ (by omega)
  exact ⟨bx, cx, by rw [hv, hm], hown3, ((Below.refl _ w2).alloc (Nat.le_refl _) _).trans hbel3, (World.ownsRow.lt hown3 bx rfl).1⟩

theorem tmod_nat' (a b : Nat) : ((a : Int)) % (b : Int) = ((a % b : Nat) : Int) := rfl

set_option maxHeartbeats 4000000 in
set_option maxRecDepth 100000 in
theorem walkCount (A : Option Addr) (len cap : Nat) (A1 : Option Addr) (len1 cap1 : Nat) (w : World) (hI : In w A len cap) (hI1 : In w A1 len1 cap1) :
    Calls Try.prog 3 #[.slice A len cap, .slice A1 len1 cap1] w fun e w' => e = .returned (.bool true) ∧ Below w.heap.size w w' := by
  have hm := hI.len_le
  have hm1 := hI1.len_le
  unfold maxLen at hm hm1
  have HI := Lib.hid hI
  clear hI hI1
  by_cases hlen : len ≤ 1048576
  · by_cases hlen1 : len1 ≤ 1048576
    · have hd0 : decide (1048576 < len) = false := by simp; omega
      go_enter Try.func3, Try.ntmps3
      go_wp2_with fail
      refine (drawcount_any A len cap _ HI.out).mono ?_
      rintro e w1 ⟨b, c, zs, rfl, hz18, hown1, hb1⟩
      have HO1 := Lib.hid hown1
      have HB1 := Lib.hid hb1
      have HLM : Hid (zs.length ≤ maxLen) := by show _ ≤ _; unfold maxLen; omega
      clear hown1 hb1
      go_wp2_with fail
      refine (bitsCount_any _ c zs _ HO1.out.ints).mono ?_
      rintro e w2 ⟨rfl, hb2⟩
      have HO2 := Lib.hid (HO1.out.below hb2)
      have HB2 : Hid (Below w.heap.size w w2) := HB1.out.trans (hb2.mono HB1.out.size)
      clear hb2
      go_wp2_with fail
      refine (sbitsCount_any _ c zs _ HO2.out.ints HLM.out).mono ?_
      rintro e w' ⟨rfl, rfl⟩
      by_cases h16 : zs.length ≤ 16
      · obtain ⟨R, HR⟩ : ∃ R : Nat, Hid (cntB zs = R) := ⟨_, rfl⟩
        have hR : R ≤ 16 := by rw [← HR.out]; have := cntB_le zs; omega
        rw [countOr_yes h16, HR.out]
        have hne : ((R : Int) != (R : Int)) = false := by simp
        have hlt : decide ((R : Int) < 0) = false := by simp
        by_cases h0 : zs.length = 0
        · have h00 : ((zs.length : Int) == 0) = true := by simp [h0]
          have hee : ((R : Int) == (R : Int)) = true := by simp
          clear h0
          go_wp2
          go_ret
          exact ⟨rfl, HB2.out⟩
        · have h00 : ((zs.length : Int) == 0) = false := beq_eq_false_iff_ne.2 (by omega)
          obtain ⟨m, HM⟩ : ∃ m, Hid (zs.length = m) := ⟨_, rfl⟩
          rw [HM.out] at h0 h00 h16 hz18 ⊢
          obtain ⟨k, HK⟩ : ∃ k, Hid (len1 % m = k) := ⟨_, rfl⟩
          have hkm : k < m := by rw [← HK.out]; exact Nat.mod_lt _ (by omega)
          have hmz : ¬ m = 0 := h0
          have hmod : (len1 : Int) % (m : Int) = (k : Int) := by rw [← HK.out]; rfl
          have hw2 := HB2.out.size
          have hm0 : 0 < m := by omega
          have hkz : k < zs.length := by rw [HM.out]; exact hkm
          have hki : (k : Int) < (m : Int) := by omega
          go_wp2_with (at_builtin; refine wpList_app_bools rfl (.tmp 45) (.tmp 46) rfl _ w2.heap.size (some ⟨w2.heap.size, 0, none⟩) 0 [] rfl _ _ zs (by rw [HM.out]; rfl) (OwnBools.new _) (HO2.out.ints.allocS _) (by rw [HM.out]; simp; omega) (by simp) (by simp) ?_; intro v w3 hA; obtain ⟨bx, cx, rfl, hown3, hB3, hbx⟩ := copied_bools HM.out hm0 hA; obtain ⟨hcx, hfx⟩ := ownb_cell hown3 k hkz; clear hA)
          have hst := (ownb_stored hown3 k true).1
          have HO4 := Lib.hid hst
          have HB4 : Hid (Below w2.heap.size w2 (w3.setCell ⟨bx, k, none⟩ (.bool true))) := hB3.setCell (p := ⟨bx, k, none⟩) hbx _
          have HL4 : Hid ((zs.set k true).length = m) := by show _ = _; rw [List.length_set]; exact HM.out
          clear hown3 hB3 hst hcx hfx hkz
          have hcall := bitsCount_any (some ⟨bx, 0, none⟩) cx (zs.set k true) _ HO4.out.ints
          rw [HL4.out] at hcall
          refine hcall.mono ?_
          clear hcall
          rintro e w5 ⟨rfl, hb5⟩
          have HB5 : Hid (Below w.heap.size w w5) := HB2.out.trans ((HB4.out.trans (hb5.mono HB4.out.size)).mono HB2.out.size)
          have hO5 := (HO2.out.below HB4.out).below hb5
          have hc5 := (ownb_cell hO5 k (by rw [HM.out]; exact hkm)).1
          have HE : Hid (countOr (zs.set k true) = ((R + (if bth zs k then 0 else 1) : Nat) : Int)) := by
            show _ = _
            rw [countOr_yes (by rw [HL4.out]; exact h16), cntB_set zs k (by rw [HM.out]; exact hkm), HR.out]
          rw [HE.out]
          clear hb5 hO5 HE
          cases hv : bth zs k with
          | true =>
            rw [hv] at hc5
            have hee : ((R : Int) == (R : Int)) = true := by simp
            have hr0 : ((R + (if (true : Bool) = true then 0 else 1) : Nat) : Int) = (R : Int) := by simp
            rw [hr0]
            clear hv hr0
            go_wp2
            go_ret
            exact ⟨rfl, HB5.out⟩
          | false =>
            rw [hv] at hc5
            have hee : ((R : Int) + 1 == (R : Int) + 1) = true := by simp
            have hr0 : ((R + (if (false : Bool) = true then 0 else 1) : Nat) : Int) = (R : Int) + 1 := by simp
            rw [hr0]
            clear hv hr0
            go_wp2
            go_ret
            exact ⟨rfl, HB5.out⟩
      · rw [countOr_no (by omega)]
        go_wp2
        go_ret
        exact ⟨rfl, HB2.out⟩
    · have hd0 : decide (1048576 < len) = false := by simp; omega
      have hd1 : decide (1048576 < len1) = true := by simp; omega
      go_enter Try.func3, Try.ntmps3
      go_wp2
      go_ret
      exact ⟨rfl, Below.refl _ _⟩
  · have hd0 : decide (1048576 < len) = true := by simp; omega
    go_enter Try.func3, Try.ntmps3
    go_wp2
    go_ret
    exact ⟨rfl, Below.refl _ _⟩

end Go.Proofs.Ytmgdngmcgokeeaa
