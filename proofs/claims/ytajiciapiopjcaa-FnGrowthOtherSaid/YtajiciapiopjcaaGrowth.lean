/- Contracts of TreeGrowth and of its model: both return the proof of growth, or nothing where the leaves or the number are invalid. Condition: the leaves lie in memory. -/
import Derived.Test.YtajiciapiopjcaaPeaks
import Derived.Test.YtajiciapiopjcaaPeakLaws
namespace Go.Proofs.Ytajiciapiopjcaa
open Go.RowKit
set_option linter.unusedVariables false

def growthOr (zs : List Int) (m : Int) : List Int := if leavesB zs = true ∧ 0 ≤ m ∧ m ≤ zs.length then growthZ zs m.toNat else []
theorem growthOr_yes {zs : List Int} {m : Nat} (h : leavesB zs = true) (hm : m ≤ zs.length) : growthOr zs (m : Int) = growthZ zs m := by
  unfold growthOr
  rw [if_pos ⟨h, by omega, by omega⟩, Int.toNat_natCast]
theorem growthOr_no {zs : List Int} {m : Int} (h : ¬ (leavesB zs = true ∧ 0 ≤ m ∧ m ≤ zs.length)) : growthOr zs m = [] := by unfold growthOr; rw [if_neg h]
theorem cover_short (zs : List Int) (s : Nat) : (coverZ zs s).length ≤ 17 := by rw [coverG_length, sizesOf_length]; exact places_length_le s zs.length

set_option maxHeartbeats 1000000 in
theorem sgrowth_no (zs : List Int) (b o cap : Nat) (m : Int) (w : World) (hI : IntsAt w w.heap.size (some ⟨b, o, none⟩) zs) (hcap : zs.length ≤ cap) (hmax : cap ≤ maxLen) (hno : ¬ (leavesB zs = true ∧ 0 ≤ m ∧ m ≤ zs.length)) :
    Calls Try.prog 14 #[.slice (some ⟨b, o, none⟩) zs.length cap, .int .i64 m] w (RetInts w []) := by
  have HI := Lib.hid hI
  have HM := Lib.hid (Nat.le_trans hcap hmax)
  have HNO := Lib.hid hno
  clear hI hmax hcap hno
  cases hv : leavesB zs with
  | true =>
    have HV := Lib.hid hv
    have HMO : Hid (¬ (0 ≤ m ∧ m ≤ zs.length)) := fun h => HNO.out ⟨hv, h.1, h.2⟩
    clear hv
    go_enter Try.func14, Try.ntmps14
    go_wp2_with fail
    refine (sdigs_any _ _ zs _ HI.out HM.out).mono ?_
    rintro e w' ⟨rfl, rfl⟩
    rw [HV.out]
    go_wp2_with fail
    refine (in_no _ _ _ _ HMO.out).mono ?_
    rintro e w' ⟨rfl, rfl⟩
    go_wp2
    go_ret
    exact ⟨_, _, rfl, OwnInts.new w, (Below.refl _ _).alloc (Nat.le_refl _) _⟩
  | false =>
    have HV := Lib.hid hv
    clear hv
    go_enter Try.func14, Try.ntmps14
    go_wp2_with fail
    refine (sdigs_any _ _ zs _ HI.out HM.out).mono ?_
    rintro e w' ⟨rfl, rfl⟩
    rw [HV.out]
    go_wp2
    go_ret
    exact ⟨_, _, rfl, OwnInts.new w, (Below.refl _ _).alloc (Nat.le_refl _) _⟩

set_option maxHeartbeats 1000000 in
theorem sgrowth_yes (zs : List Int) (b o cap m : Nat) (w : World) (hI : IntsAt w w.heap.size (some ⟨b, o, none⟩) zs) (hcap : zs.length ≤ cap) (hmax : cap ≤ maxLen) (hv : leavesB zs = true) (hm : m ≤ zs.length) :
    Calls Try.prog 14 #[.slice (some ⟨b, o, none⟩) zs.length cap, .int .i64 (m : Int)] w (RetInts w (growthZ zs m)) := by
  have HI := Lib.hid hI
  have HMX := Lib.hid hmax
  have HC := Lib.hid hcap
  have HM := Lib.hid (Nat.le_trans hcap hmax)
  obtain ⟨h16, hd⟩ := leavesB_yes hv
  have HV := Lib.hid hv
  have HD := Lib.hid hd
  have hlt : (zs.take m).length = m := by rw [List.length_take]; omega
  have C1 : Hid (Calls Try.prog 36 #[.slice (some ⟨b, o, none⟩) m cap, .int .i64 0] w (RetInts w (coverZ (zs.take m) 0))) := by
    have := scover_any (zs.take m) b o cap 0 w (hI.first m) (by omega) (by omega) hmax (hd.take m) (by omega)
    rw [hlt] at this
    exact this
  unfold maxLen at hmax
  have hi1 : (m : Int) ≤ (zs.length : Int) := by omega
  have hi2 : (m : Int) ≤ (cap : Int) := by omega
  have hs1 := cover_short (zs.take m) 0
  have hs2 := cover_short zs m
  clear hI hv hd hlt
  go_enter Try.func14, Try.ntmps14
  go_wp2_with fail
  refine (sdigs_any _ _ zs _ HI.out HM.out).mono ?_
  rintro e w' ⟨rfl, rfl⟩
  rw [HV.out]
  go_wp2_with fail
  refine (in_yes _ _ _ _ (by omega) (by omega)).mono ?_
  rintro e w' ⟨rfl, rfl⟩
  go_wp2_with fail
  refine C1.out.mono ?_
  rintro e w1 ⟨A1, c1, rfl, hown1, hb1⟩
  have HO1 := Lib.hid hown1
  have HB1 := Lib.hid hb1
  clear hown1 hb1
  go_wp2_with fail
  refine (scover_any zs b o cap m _ (HI.out.belowS HB1.out) h16 HC.out HMX.out HD.out hm).mono ?_
  rintro e w2 ⟨A2, c2, rfl, hown2, hb2⟩
  have HO2 := Lib.hid hown2
  have HO12 := Lib.hid (HO1.out.below hb2)
  have HB2 : Hid (Below w.heap.size w w2) := HB1.out.trans (hb2.mono HB1.out.size)
  clear hown2 hb2
  have hz2 : w.heap.size ≤ w2.heap.size := HB2.out.size
  go_wp2_with (at_builtin; refine wpList_app_ints rfl (.tmp 19) (.tmp 22) rfl _ w.heap.size A1 c1 (coverZ (zs.take m) 0) rfl A2 c2 (coverZ zs m) rfl HO12.out HO2.out.ints (by omega) hz2 HO2.out.none0 ?_; intro v w3 hA; obtain ⟨⟨A3, c3, rfl, hown3⟩, hg3, hb3⟩ := hA; have HO3 := Lib.hid hown3; have HB3 : Hid (Below w.heap.size w w3) := HB2.out.trans hb3; clear hown3 hg3 hb3)
  go_ret
  exact ⟨A3, c3, by simp [growthZ, growthG, coverZ], HO3.out, HB3.out⟩

theorem sgrowth_any (zs : List Int) (m : Int) (b o cap : Nat) (w : World) (hI : IntsAt w w.heap.size (some ⟨b, o, none⟩) zs) (hcap : zs.length ≤ cap) (hmax : cap ≤ maxLen) :
    Calls Try.prog 14 #[.slice (some ⟨b, o, none⟩) zs.length cap, .int .i64 m] w (RetInts w (growthOr zs m)) := by
  by_cases h : leavesB zs = true ∧ 0 ≤ m ∧ m ≤ zs.length
  · obtain ⟨k, rfl⟩ := Int.eq_ofNat_of_zero_le h.2.1
    rw [growthOr_yes h.1 (by omega)]
    exact sgrowth_yes zs b o cap k w hI hcap hmax h.1 (by omega)
  · rw [growthOr_no h]
    exact sgrowth_no zs b o cap m w hI hcap hmax h

theorem RootsAt.append {w : World} {gs hs : List Nat} {rs ss : List Int} (h : RootsAt w gs rs) (k : RootsAt w hs ss) : RootsAt w (gs ++ hs) (rs ++ ss) := by
  refine ⟨by rw [List.length_append, List.length_append, h.same, k.same], fun j hj => ?_⟩
  rw [List.length_append] at hj
  unfold gth nth
  rw [List.getD_eq_getElem?_getD, List.getD_eq_getElem?_getD]
  by_cases c : j < gs.length
  · rw [List.getElem?_append_left c, List.getElem?_append_left (by rw [← h.same]; exact c)]
    have := h.node j c
    unfold gth nth at this
    rw [List.getD_eq_getElem?_getD, List.getD_eq_getElem?_getD] at this
    exact this
  · rw [List.getElem?_append_right (by omega), List.getElem?_append_right (by rw [← h.same]; omega), ← h.same]
    have := k.node (j - gs.length) (by omega)
    unfold gth nth at this
    rw [List.getD_eq_getElem?_getD, List.getD_eq_getElem?_getD] at this
    exact this
theorem OwnPtrs.none0 {w : World} {base : Nat} {A : Option Addr} {cap : Nat} {zs : List Nat} (h : OwnPtrs w base A cap zs) : A = none → cap = 0 := by
  intro hA
  subst hA
  rcases h.2 with ⟨hv, _⟩ | ⟨g, c, cur, hv, _⟩
  · injection hv
  · injection hv with hA _ _; cases hA

set_option maxHeartbeats 1000000 in
theorem growth_no (zs : List Int) (b o cap : Nat) (m : Int) (w : World) (hI : IntsAt w w.heap.size (some ⟨b, o, none⟩) zs) (hcap : zs.length ≤ cap) (hmax : cap ≤ maxLen) (hno : ¬ (leavesB zs = true ∧ 0 ≤ m ∧ m ≤ zs.length)) :
    Calls Try.prog 13 #[.slice (some ⟨b, o, none⟩) zs.length cap, .int .i64 m] w (RetInts w []) := by
  have HI := Lib.hid hI
  have HM := Lib.hid (Nat.le_trans hcap hmax)
  have HNO := Lib.hid hno
  clear hI hmax hcap hno
  cases hv : leavesB zs with
  | true =>
    have HV := Lib.hid hv
    have HMO : Hid (¬ (0 ≤ m ∧ m ≤ zs.length)) := fun h => HNO.out ⟨hv, h.1, h.2⟩
    clear hv
    by_cases h0 : m < 0
    · go_enter Try.func13, Try.ntmps13
      go_wp2_with fail
      refine (leaves_any _ _ zs _ HI.out HM.out).mono ?_
      rintro e w' ⟨rfl, rfl⟩
      rw [HV.out]
      go_wp2
      go_ret
      exact ⟨_, _, rfl, OwnInts.new w, (Below.refl _ _).alloc (Nat.le_refl _) _⟩
    · have h1 : (zs.length : Int) < m := by have := HMO.out; omega
      go_enter Try.func13, Try.ntmps13
      go_wp2_with fail
      refine (leaves_any _ _ zs _ HI.out HM.out).mono ?_
      rintro e w' ⟨rfl, rfl⟩
      rw [HV.out]
      go_wp2
      go_ret
      exact ⟨_, _, rfl, OwnInts.new w, (Below.refl _ _).alloc (Nat.le_refl _) _⟩
  | false =>
    have HV := Lib.hid hv
    clear hv
    go_enter Try.func13, Try.ntmps13
    go_wp2_with fail
    refine (leaves_any _ _ zs _ HI.out HM.out).mono ?_
    rintro e w' ⟨rfl, rfl⟩
    rw [HV.out]
    go_wp2
    go_ret
    exact ⟨_, _, rfl, OwnInts.new w, (Below.refl _ _).alloc (Nat.le_refl _) _⟩

set_option maxHeartbeats 1000000 in
theorem growth_yes (zs : List Int) (b o cap m : Nat) (w : World) (hI : IntsAt w w.heap.size (some ⟨b, o, none⟩) zs) (hcap : zs.length ≤ cap) (hmax : cap ≤ maxLen) (hv : leavesB zs = true) (hm : m ≤ zs.length) :
    Calls Try.prog 13 #[.slice (some ⟨b, o, none⟩) zs.length cap, .int .i64 (m : Int)] w (RetInts w (growthZ zs m)) := by
  have HI := Lib.hid hI
  have HMX := Lib.hid hmax
  have HC := Lib.hid hcap
  have HM := Lib.hid (Nat.le_trans hcap hmax)
  obtain ⟨h16, hd⟩ := leavesB_yes hv
  have HV := Lib.hid hv
  have HD := Lib.hid hd
  have hlt : (zs.take m).length = m := by rw [List.length_take]; omega
  have C1 : Hid (Calls Try.prog 33 #[.slice (some ⟨b, o, none⟩) m cap, .int .i64 0] w (RetTrees w (zs.take m) (places 0 m))) := by
    have := trees_any (zs.take m) b o cap 0 w (hI.first m) (by omega) (by omega) hmax (hd.take m) (by omega)
    rw [hlt] at this
    exact this
  have HCV : Hid (coverP pairZ 0 (zs.take m) (places 0 m) = coverZ (zs.take m) 0) := by show _ = _; unfold coverZ coverG; rw [hlt]
  unfold maxLen at hmax
  have hi1 : (m : Int) ≤ (zs.length : Int) := by omega
  have hi2 : (m : Int) ≤ (cap : Int) := by omega
  have hi3 : ¬ ((zs.length : Int) < (m : Int)) := by omega
  clear hI hv hd hlt
  go_enter Try.func13, Try.ntmps13
  go_wp2_with fail
  refine (leaves_any _ _ zs _ HI.out HM.out).mono ?_
  rintro e w' ⟨rfl, rfl⟩
  rw [HV.out]
  go_wp2_with fail
  refine C1.out.mono ?_
  rintro e w1 ⟨A1, c1, gs1, rfl, hown1, htr1, hb1⟩
  have HO1 := Lib.hid hown1
  have HT1 := Lib.hid htr1
  have HB1 := Lib.hid hb1
  clear hown1 hb1 htr1
  go_wp2_with fail
  refine (trees_any zs b o cap m _ (HI.out.belowS HB1.out) h16 HC.out HMX.out HD.out hm).mono ?_
  rintro e w2 ⟨A2, c2, gs2, rfl, hown2, htr2, hb2⟩
  have HO2 := Lib.hid hown2
  have HT2 := Lib.hid htr2
  have HT12 := Lib.hid (HT1.out.kept (Kept.of_below hb2))
  have HO12 := Lib.hid (HO1.out.below hb2)
  have HB2 : Hid (Below w.heap.size w w2) := HB1.out.trans (hb2.mono HB1.out.size)
  clear hown2 hb2 htr2
  have hz2 : w.heap.size ≤ w2.heap.size := HB2.out.size
  have hg1 := trees_short HT1.out
  have hg2 := trees_short HT2.out
  obtain ⟨gs, HGS⟩ : ∃ gs, Hid (gs1 ++ gs2 = gs) := ⟨_, rfl⟩
  have hgs : gs.length ≤ 34 := by rw [← HGS.out, List.length_append]; omega
  go_wp2_with (at_builtin; refine wpList_app_ptrs rfl (.tmp 22) (.tmp 25) rfl _ w.heap.size A1 c1 gs1 rfl A2 c2 gs2 rfl HO12.out HO2.out.ints (by omega) hz2 HO2.out.none0 ?_; intro v w3 hA; have HKA := Lib.hid (Kept.appended (n := 0) HO12.out hA); rw [HGS.out] at hA; obtain ⟨⟨A3, c3, rfl, hown3⟩, hg3, hb3⟩ := hA; have HO3 := Lib.hid hown3; have HB3 : Hid (Below w.heap.size w w3) := HB2.out.trans hb3; clear hown3 hg3 hb3)
  have HRT : Hid (RootsAt w3 gs (growthZ zs m)) := by
    have h1 := HT12.out.roots
    rw [HCV.out] at h1
    have h2 := (h1.append HT2.out.roots).kept HKA.out
    rw [HGS.out] at h2
    exact h2
  refine (roots_any A3 c3 gs (growthZ zs m) _ HO3.out.ints (by omega) HRT.out).mono ?_
  rintro e w4 ⟨A4, c4, rfl, hown4, hb4⟩
  have HO4 := Lib.hid hown4
  have HB4 : Hid (Below w.heap.size w w4) := HB3.out.trans (hb4.mono HB3.out.size)
  clear hown4 hb4
  go_wp2
  go_ret
  exact ⟨A4, c4, rfl, HO4.out.base_le HB3.out.size, HB4.out⟩

theorem growth_any (zs : List Int) (m : Int) (b o cap : Nat) (w : World) (hI : IntsAt w w.heap.size (some ⟨b, o, none⟩) zs) (hcap : zs.length ≤ cap) (hmax : cap ≤ maxLen) :
    Calls Try.prog 13 #[.slice (some ⟨b, o, none⟩) zs.length cap, .int .i64 m] w (RetInts w (growthOr zs m)) := by
  by_cases h : leavesB zs = true ∧ 0 ≤ m ∧ m ≤ zs.length
  · obtain ⟨k, rfl⟩ := Int.eq_ofNat_of_zero_le h.2.1
    rw [growthOr_yes h.1 (by omega)]
    exact growth_yes zs b o cap k w hI hcap hmax h.1 (by omega)
  · rw [growthOr_no h]
    exact growth_no zs b o cap m w hI hcap hmax h

end Go.Proofs.Ytajiciapiopjcaa
