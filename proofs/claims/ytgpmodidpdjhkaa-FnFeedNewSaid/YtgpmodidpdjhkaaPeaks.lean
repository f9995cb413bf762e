/- Contracts of treeRoots, peaksDigest, TreePeaks and TreeDigest: the roots of the peaks, and the digest that folds them. Conditions: the leaves lie in memory; of the inner functions, that the trees are there. -/
import Derived.Test.YtgpmodidpdjhkaaTrees
namespace Go.Proofs.Ytgpmodidpdjhkaa
open Go.RowKit
set_option linter.unusedVariables false

/-- The roots of nodes. -/
structure RootsAt (w : World) (gs : List Nat) (rs : List Int) : Prop where
  same : gs.length = rs.length
  node : ∀ k, k < gs.length → ∃ s x y, Node w (gth gs k) (nth rs k) s x y
theorem RootsAt.kept {w w' : World} {gs : List Nat} {rs : List Int} (h : RootsAt w gs rs) (hk : Kept w w') : RootsAt w' gs rs :=
  ⟨h.same, fun k hk' => by obtain ⟨s, x, y, n⟩ := h.node k hk'; exact ⟨s, x, y, hk _ _ _ _ _ n⟩⟩
theorem coverP_nth (zs : List Int) (ps : List (Nat × Nat)) (k : Nat) (h : k < ps.length) : nth (coverP pairZ 0 zs ps) k = rootG pairZ 0 4 (segG zs (ps.getD k (0, 1)).1 (ps.getD k (0, 1)).2) := by
  unfold nth coverP
  rw [List.getD_eq_getElem?_getD, List.getD_eq_getElem?_getD, List.getElem?_map, List.getElem?_eq_getElem h]
  rfl
theorem TreesOk.roots {w : World} {zs : List Int} {gs : List Nat} {ps : List (Nat × Nat)} (h : TreesOk w zs gs ps) : RootsAt w gs (coverP pairZ 0 zs ps) := by
  refine ⟨by rw [h.same]; unfold coverP; rw [List.length_map], fun k hk => ?_⟩
  rw [h.same] at hk
  obtain ⟨d, _, _, ht⟩ := h.tree k hk
  obtain ⟨x, y, hn⟩ := ht.node
  rw [coverP_nth zs ps k hk]
  exact ⟨_, x, y, hn⟩
/-- An append to a slice of integers keeps all nodes. -/
theorem Kept.appendedI {W w' : World} {base : Nat} {A : Option Addr} {c : Nat} {ds zs : List Int} {v : Value} (hown : OwnInts W base A c ds) (h : Appended W base A ds.length c zs v w') : Kept W w' :=
  fun g r s x y hn => Blk.grown hn h.grown (fun e => own_blk_ne hown hn (by decide) e.symm)
theorem nth_take_snoc (rs : List Int) (k : Nat) (h : k < rs.length) : rs.take (k + 1) = rs.take k ++ [nth rs k] := by
  rw [List.take_succ_eq_append_getElem h, nth, List.getD_eq_getElem?_getD, List.getElem?_eq_getElem h]
  rfl

structure RootsLoop (w : World) (rs : List Int) (A : Option Addr) (c k : Nat) (w' : World) : Prop where
  own : OwnInts w' w.heap.size A c (rs.take k)
  below : Below w.heap.size w w'

set_option maxHeartbeats 2000000 in
theorem roots_any (B : Option Addr) (bc : Nat) (gs : List Nat) (rs : List Int) (w : World) (hP : PtrsAt w w.heap.size B gs) (hm : gs.length ≤ 100) (hR : RootsAt w gs rs) :
    Calls Try.prog 64 #[.slice B gs.length bc] w (RetInts w rs) := by
  have HP := Lib.hid hP
  have HR := Lib.hid hR
  obtain ⟨n, HN⟩ : ∃ n, Hid (gs.length = n) := ⟨_, rfl⟩
  have HS : Hid (rs.length = n) := by show _ = _; rw [← hR.same]; exact HN.out
  rw [HN.out] at hm ⊢
  clear hP hR
  go_enter Try.func64, Try.ntmps64
  go_wp2
  go_loopw [3, 9] (fun x ix w' => ∃ (A : Option Addr) (c k : Nat), k ≤ n ∧ x = .slice A k c ∧ ix = .int .i64 k ∧ RootsLoop w rs A c k w') (fun _ ix _ => n - (intOf ix).toNat)
  case atStart =>
    refine ⟨_, _, 0, by omega, rfl, rfl, ?_⟩
    exact ⟨OwnInts.new w, (Below.refl _ _).alloc (Nat.le_refl _) _⟩
  case round =>
    obtain ⟨A, c, k, hk, rfl, rfl, hC⟩ := hrel
    have HC := Lib.hid hC
    clear hC
    by_cases hlt : k < n
    · have hkg : k < gs.length := by rw [HN.out]; exact hlt
      obtain ⟨b, o, rfl, hb, hcell⟩ := (HP.out.below HC.out.below (Nat.le_refl _)) (by omega)
      have hck := hcell k hkg
      obtain ⟨s, x, y, hnd⟩ := (HR.out.kept (Kept.of_below HC.out.below)).node k hkg
      have hc0 := hnd.c0
      have hb0 : w.heap.size ≤ wr.heap.size := HC.out.below.size
      have HT : Hid ((rs.take k).length = k) := by show _ = _; rw [List.length_take, HS.out]; omega
      have HSN : Hid (rs.take (k + 1) = rs.take k ++ [nth rs k]) := nth_take_snoc rs k (by rw [HS.out]; exact hlt)
      clear hkg hcell hnd
      go_wp2_with (at_builtin; refine wpList_app_ints rfl (.tmp 13) (.tmp 18) rfl _ w.heap.size A c (rs.take k) (by rw [HT.out]; rfl) _ _ [nth rs k] rfl (HC.out.own.alloc _) (one_new _ _) (by rw [HT.out]; simp; omega) (by simp; omega) (by simp) ?_; intro v w3 hA)
      rw [← HSN.out] at hA
      obtain ⟨⟨A', c', rfl, hown⟩, hg, hbel⟩ := hA
      have HO3 := Lib.hid hown
      have HB3 := Lib.hid hbel
      have hlen : (rs.take (k + 1)).length = k + 1 := by rw [List.length_take, HS.out]; omega
      rw [hlen]
      clear hown hg hbel hlen
      go_wp2
      go_roundw
      case rel =>
        exact ⟨A', c', k + 1, by omega, by simp, by go_num, HO3.out, (HC.out.below.alloc (by omega) _).trans HB3.out⟩
      case measure => simp [intOf]; omega
    · have hkn : k = n := by omega
      subst hkn
      have HT : Hid (rs.take k = rs) := by show _ = _; rw [List.take_of_length_le (by rw [HS.out]; omega)]
      go_wp2
      go_ret
      have hC := HC.out
      have ho := hC.own
      rw [HT.out] at ho
      exact ⟨A, c, by rw [HS.out]; rfl, ho, hC.below⟩

set_option maxHeartbeats 2000000 in
theorem peaksD_any (m : Int) (B : Option Addr) (bc : Nat) (gs : List Nat) (rs : List Int) (w : World) (hP : PtrsAt w w.heap.size B gs) (hm : gs.length ≤ 100) (hR : RootsAt w gs rs) (hd : Digs rs) (h0 : 0 ≤ m) (h1 : m < 991) :
    Calls Try.prog 58 #[.int .i64 m, .slice B gs.length bc] w fun e w' => e = .returned (.int .i64 (foldZ m rs)) ∧ w = w' := by
  have HP := Lib.hid hP
  have HR := Lib.hid hR
  have HD := Lib.hid hd
  obtain ⟨n, HN⟩ : ∃ n, Hid (gs.length = n) := ⟨_, rfl⟩
  have HS : Hid (rs.length = n) := by show _ = _; rw [← hR.same]; exact HN.out
  rw [HN.out] at hm ⊢
  clear hP hR hd
  go_enter Try.func58, Try.ntmps58
  go_wp2
  go_loop [5, 11] (fun x ix => ∃ k : Nat, k ≤ n ∧ x = .int .i64 (foldFrom m rs k) ∧ ix = .int .i64 k) (fun _ ix => n - (intOf ix).toNat)
  case atStart => exact ⟨0, Nat.zero_le _, rfl, rfl⟩
  case round =>
    obtain ⟨k, hk, rfl, rfl⟩ := hrel
    obtain ⟨hb0, hb1⟩ := foldFrom_bd m rs k h0 h1 (by rw [HS.out]; exact hk)
    by_cases hlt : k < n
    · have hkg : k < gs.length := by rw [HN.out]; exact hlt
      have hkr : k < rs.length := by rw [HS.out]; exact hlt
      obtain ⟨b, o, rfl, hb, hcell⟩ := HP.out (by omega)
      have hck := hcell k hkg
      obtain ⟨s, x, y, hnd⟩ := HR.out.node k hkg
      have hc0 := hnd.c0
      have HF := Lib.hid (foldFrom_step m rs k hkr)
      obtain ⟨hv0, hv1⟩ := HD.out.at_ k hkr
      clear hkg hcell hnd hkr
      go_wp2_with fail
      refine (with_any _ _ _ (by omega) (by omega) (by omega) (by omega)).mono ?_
      rintro e w' ⟨rfl, rfl⟩
      go_wp2
      go_round
      case rel => exact ⟨k + 1, by omega, by rw [HF.out], by go_num⟩
      case measure => simp [intOf]; omega
    · have HE : Hid (foldFrom m rs k = foldZ m rs) := by show _ = _; unfold foldFrom; rw [List.take_of_length_le (by rw [HS.out]; omega)]
      go_wp2
      go_ret
      exact ⟨ret_int HE.out, rfl⟩

theorem trees_short {w : World} {zs : List Int} {gs : List Nat} {s n : Nat} (h : TreesOk w zs gs (places s n)) : gs.length ≤ 17 := by rw [h.same]; exact places_length_le s n



set_option maxHeartbeats 800000 in
theorem digest_any (zs : List Int) (b o cap : Nat) (w : World) (hI : IntsAt w w.heap.size (some ⟨b, o, none⟩) zs) (hcap : zs.length ≤ cap) (hmax : cap ≤ maxLen) :
    Calls Try.prog 18 #[.slice (some ⟨b, o, none⟩) zs.length cap] w fun e w' => e = .returned (.int .i64 (digestOr zs)) ∧ Below w.heap.size w w' := by
  have HI := Lib.hid hI
  have HM := Lib.hid hmax
  have HC := Lib.hid hcap
  clear hI hmax hcap
  cases hv : leavesB zs with
  | true =>
    have HE : Hid (digestOr zs = digestZ zs) := by show _ = _; unfold digestOr; rw [hv]; rfl
    obtain ⟨h16, hd⟩ := leavesB_yes hv
    have HV := Lib.hid hv
    have HD := Lib.hid hd
    clear hv hd
    rw [HE.out]
    go_enter Try.func18, Try.ntmps18
    go_wp2_with fail
    refine (leaves_any _ _ zs _ HI.out (Nat.le_trans HC.out HM.out)).mono ?_
    rintro e w' ⟨rfl, rfl⟩
    rw [HV.out]
    go_wp2_with fail
    refine (trees_any zs b o cap 0 _ HI.out h16 HC.out HM.out HD.out (by omega)).mono ?_
    rintro e w1 ⟨A, c, gs, rfl, hown, htr, hbel⟩
    have HO := Lib.hid hown
    have HT := Lib.hid htr
    have HB := Lib.hid hbel
    clear hown hbel htr
    go_wp2_with fail
    refine (peaksD_any _ A c gs (coverZ zs 0) _ HO.out.ints (by have := trees_short HT.out; omega) HT.out.roots (coverZ_digs zs 0 HD.out h16) (by omega) (by omega)).mono ?_
    rintro e w' ⟨rfl, rfl⟩
    go_wp2
    go_ret
    exact ⟨rfl, HB.out⟩
  | false =>
    have HE : Hid (digestOr zs = -1) := by show _ = _; unfold digestOr; rw [hv]; rfl
    have HV := Lib.hid hv
    clear hv
    rw [HE.out]
    go_enter Try.func18, Try.ntmps18
    go_wp2_with fail
    refine (leaves_any _ _ zs _ HI.out (Nat.le_trans HC.out HM.out)).mono ?_
    rintro e w' ⟨rfl, rfl⟩
    rw [HV.out]
    go_wp2
    go_ret
    exact ⟨rfl, Below.refl _ _⟩

end Go.Proofs.Ytgpmodidpdjhkaa
