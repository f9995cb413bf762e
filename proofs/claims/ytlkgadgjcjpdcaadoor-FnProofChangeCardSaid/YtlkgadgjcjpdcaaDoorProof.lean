/- Contract of TreeProof: it returns the proof of a leaf, or nothing where the leaves or the index are invalid. Condition: the leaves lie in memory. -/
import Derived.Test.YtlkgadgjcjpdcaaDoorPeaks
import Derived.Test.YtlkgadgjcjpdcaaDoorPeakLaws
import Derived.Test.YtlkgadgjcjpdcaaDoorPlace
import Derived.Test.YtlkgadgjcjpdcaaDoorDelete
namespace Go.Proofs.YtlkgadgjcjpdcaaDoor
open Go.RowKit
set_option linter.unusedVariables false

def proofOr (zs : List Int) (i : Int) : List Int := if leavesB zs = true ∧ 0 ≤ i ∧ i < zs.length then proofZ zs i.toNat else []
theorem proofOr_yes {zs : List Int} {i : Nat} (h : leavesB zs = true) (hi : i < zs.length) : proofOr zs (i : Int) = proofZ zs i := by
  unfold proofOr
  rw [if_pos ⟨h, by omega, by omega⟩, Int.toNat_natCast]
theorem proofOr_no {zs : List Int} {i : Int} (h : ¬ (leavesB zs = true ∧ 0 ≤ i ∧ i < zs.length)) : proofOr zs i = [] := by unfold proofOr; rw [if_neg h]

theorem ptrs_erase (gs : List Nat) (p : Nat) : (ptrs gs).take p ++ (ptrs gs).drop (p + 1) = ptrs (gs.eraseIdx p) := by
  unfold ptrs
  rw [← List.eraseIdx_eq_take_drop_succ]
  exact eraseIdx_map gs p
theorem OwnPtrs.row {w : World} {base : Nat} {A : Option Addr} {c : Nat} {gs : List Nat} (h : OwnPtrs w base A c gs) (hn : 0 < gs.length) : ∃ b, A = some ⟨b, 0, none⟩ ∧ base ≤ b ∧ ∃ cs, Blk w b 45 cs := by
  rcases h.2 with ⟨hv, h0⟩ | ⟨g, cap, cur, hv, hb, hh, _⟩
  · omega
  · injection hv with hA _ _
    exact ⟨g, hA, hb, cur, hh⟩

/-- What slices.Delete leaves. -/
def Deleted (w : World) (base b c : Nat) (gs : List Nat) (e : Ending) (w' : World) : Prop :=
  e = .returned (.slice (some ⟨b, 0, none⟩) gs.length c) ∧ OwnPtrs w' base (some ⟨b, 0, none⟩) c gs ∧ w.grownBy w' (some b)

theorem delp_any (gs : List Nat) (p base b c : Nat) (w : World) (hO : OwnPtrs w base (some ⟨b, 0, none⟩) c gs) (hp : p < gs.length) (hn : gs.length ≤ 1000) :
    Calls Tryd.prog 29 #[.slice (some ⟨b, 0, none⟩) gs.length c, .int .i64 (p : Int), .int .i64 ((p : Int) + 1)] w (Deleted w base b c (gs.eraseIdx p)) := by
  have h1 : w.ownsRow base 45 1 (.slice (some ⟨b, 0, none⟩) (ptrs gs).length c) (ptrs gs).length (ptrs gs) := by rw [ptrs_length]; exact hO
  have h := delp_rows (ptrs gs) p (p + 1) base b c w h1 (ptrs_one gs) (by omega) (by rw [ptrs_length]; omega) (by rw [ptrs_length]; exact hn)
  rw [ptrs_length, ptrs_erase, show gs.length - (p + 1 - p) = (gs.eraseIdx p).length by rw [List.length_eraseIdx_of_lt hp]; omega] at h
  exact h

theorem RootsAt.erase {w : World} {gs : List Nat} {rs : List Int} (h : RootsAt w gs rs) (p : Nat) (hp : p < gs.length) : RootsAt w (gs.eraseIdx p) (rs.eraseIdx p) := by
  have hs := h.same
  refine ⟨by rw [List.length_eraseIdx_of_lt hp, List.length_eraseIdx_of_lt (by omega), hs], fun k hk => ?_⟩
  rw [List.length_eraseIdx_of_lt hp] at hk
  have key : gth (gs.eraseIdx p) k = gth gs (if k < p then k else k + 1) ∧ nth (rs.eraseIdx p) k = nth rs (if k < p then k else k + 1) := by
    unfold gth nth
    rw [List.getD_eq_getElem?_getD, List.getD_eq_getElem?_getD, List.getD_eq_getElem?_getD, List.getD_eq_getElem?_getD, List.getElem?_eraseIdx, List.getElem?_eraseIdx]
    by_cases c : k < p
    · rw [if_pos c, if_pos c, if_pos c]; exact ⟨rfl, rfl⟩
    · rw [if_neg c, if_neg c, if_neg c]; exact ⟨rfl, rfl⟩
  rw [key.1, key.2]
  exact h.node _ (by split <;> omega)

set_option maxHeartbeats 1000000 in
theorem proof_no (zs : List Int) (A : Option Addr) (cap : Nat) (i : Int) (w : World) (hI : IntsAt w w.heap.size A zs) (hmax : zs.length ≤ maxLen) (hno : ¬ (leavesB zs = true ∧ 0 ≤ i ∧ i < zs.length)) :
    Calls Tryd.prog 9 #[.slice A zs.length cap, .int .i64 i] w (RetInts w []) := by
  have HI := Lib.hid hI
  have HM := Lib.hid hmax
  have HNO := Lib.hid hno
  clear hI hmax hno
  cases hv : leavesB zs with
  | true =>
    have HV := Lib.hid hv
    have HMO : Hid (¬ (0 ≤ i ∧ i < zs.length)) := fun h => HNO.out ⟨hv, h.1, h.2⟩
    clear hv
    by_cases h0 : i < 0
    · go_enter Tryd.func9, Tryd.ntmps9
      go_wp2_with fail
      refine (leaves_any _ _ zs _ HI.out HM.out).mono ?_
      rintro e w' ⟨rfl, rfl⟩
      rw [HV.out]
      go_wp2
      go_ret
      exact ⟨_, _, rfl, OwnInts.new w, (Below.refl _ _).alloc (Nat.le_refl _) _⟩
    · have h1 : (zs.length : Int) ≤ i := by have := HMO.out; omega
      go_enter Tryd.func9, Tryd.ntmps9
      go_wp2_with fail
      refine (leaves_any _ _ zs _ HI.out HM.out).mono ?_
      rintro e w' ⟨rfl, rfl⟩
      rw [HV.out]
      go_wp2
      go_ret
      exact ⟨_, _, rfl, OwnInts.new w, (Below.refl _ _).alloc (Nat.le_refl _) _⟩
  | false =>
    have HV := Lib.hid hv
    clear hv
    go_enter Tryd.func9, Tryd.ntmps9
    go_wp2_with fail
    refine (leaves_any _ _ zs _ HI.out HM.out).mono ?_
    rintro e w' ⟨rfl, rfl⟩
    rw [HV.out]
    go_wp2
    go_ret
    exact ⟨_, _, rfl, OwnInts.new w, (Below.refl _ _).alloc (Nat.le_refl _) _⟩

set_option maxHeartbeats 4000000 in
set_option maxRecDepth 100000 in
theorem proof_yes (zs : List Int) (b o cap i : Nat) (w : World) (hI : IntsAt w w.heap.size (some ⟨b, o, none⟩) zs) (hcap : zs.length ≤ cap) (hmax : cap ≤ maxLen) (hv : leavesB zs = true) (hi : i < zs.length) :
    Calls Tryd.prog 9 #[.slice (some ⟨b, o, none⟩) zs.length cap, .int .i64 (i : Int)] w (RetInts w (proofZ zs i)) := by
  have HI := Lib.hid hI
  have HMX := Lib.hid hmax
  have HC := Lib.hid hcap
  have HM := Lib.hid (Nat.le_trans hcap hmax)
  obtain ⟨h16, hd⟩ := leavesB_yes hv
  have HV := Lib.hid hv
  have HD := Lib.hid hd
  obtain ⟨hp1, _, _⟩ := place_facts h16 hi
  obtain ⟨n, HN⟩ : ∃ n, Hid (zs.length = n) := ⟨_, rfl⟩
  obtain ⟨p, HP⟩ : ∃ p, Hid (placeOf n i = p) := ⟨_, rfl⟩
  rw [HN.out, HP.out] at hp1
  have h16n : n ≤ 16 := by rw [← HN.out]; exact h16
  have hin : i < n := by rw [← HN.out]; exact hi
  have HH := Lib.hid h16
  have C1 : Hid (Calls Tryd.prog 24 #[.slice (some ⟨b, o, none⟩) n cap, .int .i64 0] w (RetTrees w zs (places 0 n))) := by
    have := trees_any zs b o cap 0 w hI h16 hcap hmax hd (by omega)
    rw [HN.out] at this
    exact this
  have CL : Hid (Calls Tryd.prog 23 #[.slice (some ⟨b, o, none⟩) n cap] w fun e w' => e = .returned (.bool true) ∧ w = w') := by
    have := leaves_any _ cap zs w hI (Nat.le_trans hcap hmax)
    rw [HN.out, hv] at this
    exact this
  rw [HN.out]
  have hi2 : ¬ ((n : Int) ≤ (i : Int)) := by omega
  clear hI hv hd hcap hmax hi h16
  go_enter Tryd.func9, Tryd.ntmps9
  go_wp2_with fail
  refine CL.out.mono ?_
  rintro e w' ⟨rfl, rfl⟩
  go_wp2_with fail
  refine C1.out.mono ?_
  rintro e w1 ⟨A1, c1, gs, rfl, hown1, htr1, hb1⟩
  have hgl : gs.length = (places 0 n).length := htr1.same
  have hpg : p < gs.length := by omega
  obtain ⟨b1, rfl, hbb1, cs1, hblk1⟩ := hown1.row (by omega)
  have HO1 := Lib.hid hown1
  have HT1 := Lib.hid htr1
  have HB1 := Lib.hid hb1
  have hg17 : gs.length ≤ 17 := by rw [hgl]; exact places_length_le 0 n
  obtain ⟨d, hd4, hdp, hta⟩ := htr1.tree p (by omega)
  have HTA := Lib.hid hta
  have HDP := Lib.hid hdp
  have HGL := Lib.hid hgl
  have hb1lt : b1 < w1.heap.size := hblk1.lt
  clear hown1 htr1 hb1 hta hdp hgl
  go_wp2_with fail
  refine (sizes_any 0 n _ h16n (by omega)).mono ?_
  rintro e w2 ⟨A2, c2, rfl, hown2, hb2⟩
  rw [natsZ_length]
  have HO2 := Lib.hid hown2
  have HO12 := Lib.hid (HO1.out.below hb2)
  have HK2 := Lib.hid (Kept.of_below hb2)
  have HB2 : Hid (Below w.heap.size w w2) := HB1.out.trans (hb2.mono HB1.out.size)
  have hblk2 := hblk1.below hb2 hb1lt
  have HBK2 := Lib.hid hblk2
  have hz2 : w1.heap.size ≤ w2.heap.size := hb2.size
  clear hown2 hb2 hblk1 hblk2
  go_wp2_with fail
  refine (place_any n i A2 c2 _ HO2.out.ints h16n hin).mono ?_
  rintro e w' ⟨rfl, rfl⟩
  rw [HP.out]
  have hcp : w2.cell? ⟨b1, p, none⟩ = some (.pointer (some ⟨gth gs p, 0, none⟩)) := by
    have h1 := (HO12.out.ints.lt (by omega)).2 p hpg
    rw [Nat.zero_add] at h1
    exact h1
  have hpi : (p : Int) < (gs.length : Int) := by omega
  have hpi0 : (0 : Int) ≤ (p : Int) := by omega
  go_wp2_with fail
  refine (sib_go d (gth gs p) i _ _ (HTA.out.kept HK2.out) (by omega) hd4).mono ?_
  rintro e w3 ⟨A3, c3, rfl, hown3, hb3⟩
  obtain ⟨ss, HSS⟩ : ∃ ss, Hid (sibG pairZ 0 d (segG zs ((places 0 n).getD p (0, 1)).1 ((places 0 n).getD p (0, 1)).2) i = ss) := ⟨_, rfl⟩
  rw [HSS.out] at hown3 ⊢
  have hsl : ss.length ≤ 4 := by rw [← HSS.out, sib_length]; exact hd4
  have HO3 := Lib.hid hown3
  have HO13 := Lib.hid (HO12.out.below hb3)
  have HK3 := Lib.hid (HK2.out.trans (Kept.of_below hb3))
  have HB3 : Hid (Below w.heap.size w w3) := HB2.out.trans (hb3.mono HB2.out.size)
  have HBK3 := Lib.hid (HBK2.out.below hb3 (by omega))
  have hz3 : w2.heap.size ≤ w3.heap.size := hb3.size
  clear hown3 hb3 hcp
  go_wp2_with fail
  refine (delp_any gs p w.heap.size b1 c1 _ HO13.out hpg (by omega)).mono ?_
  rintro e w4 ⟨rfl, hown4, hg4⟩
  have HO4 := Lib.hid hown4
  have HK4 : Hid (Kept w1 w4) := HK3.out.trans (fun g r s x y hn => Blk.grown hn hg4 (fun e => by injection e with e; exact Blk.ne_ hn HBK3.out (by decide) e))
  have HO34 : Hid (OwnInts w4 w2.heap.size A3 c3 ss) := by
    refine World.ownsRow.kept HO3.out hg4 ?_
    rcases HO3.out.2 with ⟨hv, _⟩ | ⟨g, cc, cur, hv, hb, _⟩
    · left; rw [hv]; rfl
    · right
      rw [hv]
      intro e
      have : g = b1 := by simpa [Value.ownBlock] using e
      omega
  have HB4 : Hid (Below w.heap.size w w4) := HB3.out.grown hg4 (by have := HB3.out.size; omega) (fun k hk => by injection hk with hk; omega)
  have hz4 : w3.heap.size ≤ w4.heap.size := hg4.size
  clear hown4 hg4
  have HRT : Hid (RootsAt w4 (gs.eraseIdx p) ((coverZ zs 0).eraseIdx p)) := by
    have h1 := (HT1.out.kept HK4.out).roots
    have h2 : coverP pairZ 0 zs (places 0 n) = coverZ zs 0 := by unfold coverZ coverG; rw [HN.out]
    rw [h2] at h1
    exact h1.erase p hpg
  go_wp2_with fail
  refine (roots_any _ c1 (gs.eraseIdx p) ((coverZ zs 0).eraseIdx p) _ HO4.out.ints (by rw [List.length_eraseIdx_of_lt hpg]; omega) HRT.out).mono ?_
  rintro e w5 ⟨A5, c5, rfl, hown5, hb5⟩
  obtain ⟨rs, HRS⟩ : ∃ rs, Hid ((coverZ zs 0).eraseIdx p = rs) := ⟨_, rfl⟩
  have hrl : rs.length ≤ 17 := by
    have h1 := HRT.out.same
    rw [List.length_eraseIdx_of_lt hpg, HRS.out] at h1
    omega
  rw [HRS.out] at hown5 ⊢
  have HO5 := Lib.hid hown5
  have HO35 := Lib.hid (HO34.out.below hb5)
  have HB5 : Hid (Below w.heap.size w w5) := HB4.out.trans (hb5.mono HB4.out.size)
  have hz5 : w4.heap.size ≤ w5.heap.size := hb5.size
  clear hown5 hb5
  have HEQ : Hid (proofZ zs i = ss ++ rs) := by
    show _ = _
    rw [← HSS.out, ← HRS.out]
    unfold proofZ proofG
    have hdd : depthOf n i = d := by
      unfold depthOf peakOf
      rw [HP.out, HDP.out]
      exact Nat.log2_two_pow
    rw [HN.out, hdd, HP.out]
    unfold peakOf
    rw [HP.out]
    rfl
  go_wp2_with (at_builtin; refine wpList_app_ints rfl (.tmp 35) (.tmp 41) rfl _ w2.heap.size A3 c3 ss rfl A5 c5 rs rfl HO35.out HO5.out.ints (by omega) (by omega) HO5.out.none0 ?_; intro v w6 hA; obtain ⟨⟨A6, c6, rfl, hown6⟩, hg6, hb6⟩ := hA; have HO6 := Lib.hid hown6; have HB6 : Hid (Below w.heap.size w w6) := HB5.out.trans (hb6.mono (by have := HB2.out.size; omega)); clear hown6 hg6 hb6)
  go_ret
  refine ⟨A6, c6, by rw [HEQ.out]; simp, ?_, HB6.out⟩
  rw [HEQ.out]
  exact HO6.out.base_le HB2.out.size

theorem proof_any (zs : List Int) (i : Int) (b o cap : Nat) (w : World) (hI : IntsAt w w.heap.size (some ⟨b, o, none⟩) zs) (hcap : zs.length ≤ cap) (hmax : cap ≤ maxLen) :
    Calls Tryd.prog 9 #[.slice (some ⟨b, o, none⟩) zs.length cap, .int .i64 i] w (RetInts w (proofOr zs i)) := by
  by_cases h : leavesB zs = true ∧ 0 ≤ i ∧ i < zs.length
  · obtain ⟨k, rfl⟩ := Int.eq_ofNat_of_zero_le h.2.1
    rw [proofOr_yes h.1 (by omega)]
    exact proof_yes zs b o cap k w hI hcap hmax h.1 (by omega)
  · rw [proofOr_no h]
    exact proof_no zs _ cap i w hI (Nat.le_trans hcap hmax) h

end Go.Proofs.YtlkgadgjcjpdcaaDoor
