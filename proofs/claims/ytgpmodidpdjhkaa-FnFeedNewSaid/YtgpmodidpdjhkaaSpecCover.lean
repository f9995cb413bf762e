/- Contracts of the model's l2Cover, l2Fold, TreePeaks, TreeDigest: they return the roots of the largest complete trees, and the digest that folds them. Conditions: the leaves lie in memory; of the inner functions, that they are valid. -/
import Derived.Test.YtgpmodidpdjhkaaSpecTree
import Derived.Test.YtgpmodidpdjhkaaAppend
namespace Go.Proofs.Ytgpmodidpdjhkaa
open Go.RowKit
set_option linter.unusedVariables false

theorem placesGo_step {f s n : Nat} (h : s < n) : placesGo (f + 1) s n = (s, sizeAt s (n - s)) :: placesGo f (s + sizeAt s (n - s)) n := by
  show (if _ then _ else _) = _
  rw [if_pos h]
theorem placesGo_stop {f s n : Nat} (h : ¬ s < n) : placesGo f s n = [] := by
  cases f with
  | zero => rfl
  | succ f => show (if _ then _ else _) = _; rw [if_neg h]
theorem coverP_cons (zs : List Int) (p : Nat × Nat) (ps : List (Nat × Nat)) : coverP pairZ 0 zs (p :: ps) = rootG pairZ 0 4 (segG zs p.1 p.2) :: coverP pairZ 0 zs ps := rfl
theorem segG_length (zs : List Int) (s k : Nat) (h : s + k ≤ zs.length) : (segG zs s k).length = k := by unfold segG; rw [List.length_take, List.length_drop]; omega
theorem Digs.seg {zs : List Int} (h : Digs zs) (s k : Nat) : Digs (segG zs s k) := (h.drop s).take k

/-- Where the model's loop stands. -/
structure CoverAt (w : World) (zs : List Int) (from_ : Nat) (A : Option Addr) (c : Nat) (ds : List Int) (s f : Nat) (w' : World) : Prop where
  own : OwnInts w' w.heap.size A c ds
  below : Below w.heap.size w w'
  rest : ds ++ coverP pairZ 0 zs (placesGo f s zs.length) = coverZ zs from_
  fuel : zs.length < s + f
  short : ds.length ≤ s

set_option maxHeartbeats 2000000 in
theorem scover_any (zs : List Int) (b o cap from_ : Nat) (w : World) (hI : IntsAt w w.heap.size (some ⟨b, o, none⟩) zs) (h16 : zs.length ≤ 16) (hcap : zs.length ≤ cap) (hmax : cap ≤ maxLen) (hd : Digs zs) (hfrom : from_ ≤ zs.length) :
    Calls Try.prog 96 #[.slice (some ⟨b, o, none⟩) zs.length cap, .int .i64 (from_ : Int)] w (RetInts w (coverZ zs from_)) := by
  obtain ⟨n, HN⟩ : ∃ n, Hid (zs.length = n) := ⟨_, rfl⟩
  have HI := Lib.hid hI
  have HD := Lib.hid hd
  have HM := Lib.hid hmax
  rw [HN.out] at h16 hcap hfrom ⊢
  unfold maxLen at hmax
  clear hI hd
  go_enter Try.func96, Try.ntmps96
  go_wp2
  go_loopw [5, 6] (fun x i w' => ∃ (A : Option Addr) (c : Nat) (ds : List Int) (s f : Nat), s ≤ n ∧ x = .slice A ds.length c ∧ i = .int .i64 s ∧ CoverAt w zs from_ A c ds s f w') (fun _ i _ => n - (intOf i).toNat)
  case atStart =>
    refine ⟨_, _, [], from_, 17, by omega, rfl, rfl, ?_⟩
    exact ⟨OwnInts.new w, (Below.refl _ _).alloc (Nat.le_refl _) _, rfl, by rw [HN.out]; omega, by simp⟩
  case round =>
    obtain ⟨A, c, ds, s, f, hs, rfl, rfl, hC⟩ := hrel
    have HC := Lib.hid hC
    clear hC
    by_cases hlt : s < n
    · obtain ⟨f, rfl⟩ : ∃ f', f = f' + 1 := by
        cases f with
        | zero => have := HC.out.fuel; rw [HN.out] at this; omega
        | succ f => exact ⟨f, rfl⟩
      go_wp2_with fail
      refine (ssize_any _ _ _ (by omega) (by omega)).mono ?_
      rintro e w1 ⟨rfl, rfl⟩
      obtain ⟨k, HK⟩ : ∃ k, Hid (sizeAt s (n - s) = k) := ⟨_, rfl⟩
      rw [HK.out]
      have hk1 : 1 ≤ k := by rw [← HK.out]; exact sizeAt_pos _ _
      have hk2 : k ≤ n - s := by rw [← HK.out]; exact sizeAt_le _ _ (by omega)
      have hi1 : (s : Int) ≤ (s : Int) + (k : Int) := by omega
      have hi2 : (s : Int) + (k : Int) ≤ (cap : Int) := by omega
      have hne : ¬ cap = s := by omega
      have hseg : (segG zs s k).length = k := segG_length zs s k (by rw [HN.out]; omega)
      obtain ⟨r, HR⟩ : ∃ r, Hid (rootG pairZ 0 4 (segG zs s k) = r) := ⟨_, rfl⟩
      have C : Hid (Calls Try.prog 106 #[.slice (some ⟨b, o + s, none⟩) k (cap - s)] wr fun e w' => e = .returned (.int .i64 r) ∧ ∃ q, w' = wr.drewN q) := by
        have hp := ((HI.out.part s k rfl).below HC.out.below (Nat.le_refl _)).more HC.out.below.size
        have := sroot_go 4 (segG zs s k) b (o + s) (cap - s) wr hp (by omega) (by omega) (by omega) (by omega) (by unfold maxLen; omega) (HD.out.seg s k)
        rw [hseg, HR.out] at this
        exact this
      have HS := Lib.hid hseg
      clear hseg
      go_wp2_with fail
      refine C.out.mono ?_
      rintro e w2 ⟨rfl, q, rfl⟩
      have hb0 : w.heap.size ≤ wr.heap.size := HC.out.below.size
      have hdl : ds.length ≤ 16 := by have := HC.out.short; omega
      go_wp2_with (at_builtin; refine wpList_app_ints rfl (.tmp 18) (.tmp 26) rfl _ w.heap.size A c ds rfl _ _ [r] rfl ((HC.out.own.drewN q).alloc _) (one_new _ _) (by simp; omega) (by simp; omega) (by simp) ?_; intro v w3 hA)
      obtain ⟨⟨A', c', rfl, hown⟩, hg, hbel⟩ := hA
      go_wp2
      go_roundw
      case rel =>
        refine ⟨A', c', ds ++ [r], s + k, f, by omega, rfl, by go_num, ?_⟩
        have hC := HC.out
        refine ⟨hown, ?_, ?_, ?_, ?_⟩
        · exact ((below_drewN hC.below q).alloc (by simp; omega) _).trans hbel
        · rw [← hC.rest, placesGo_step (by rw [HN.out]; exact hlt), coverP_cons, List.append_assoc]
          show ds ++ ([r] ++ _) = _
          rw [HN.out, HK.out, HR.out]
          rfl
        · have := hC.fuel; omega
        · have := hC.short; simp; omega
      case measure => simp [intOf]; omega
    · have HE : Hid (ds = coverZ zs from_) := by
        show _ = _
        rw [← HC.out.rest, placesGo_stop (by rw [HN.out]; exact hlt)]
        simp [coverP]
      go_wp2
      go_ret
      refine ⟨A, c, ?_, ?_, HC.out.below⟩
      · rw [← HE.out]; rfl
      · rw [← HE.out]; exact HC.out.own

theorem coverZ_digs (zs : List Int) (s : Nat) (h : Digs zs) (h16 : zs.length ≤ 16) : Digs (coverZ zs s) := by
  have key : ∀ f s, Digs (coverP pairZ 0 zs (placesGo f s zs.length)) := by
    intro f
    induction f with
    | zero => intro s x hx; cases hx
    | succ f ih =>
      intro s
      by_cases hlt : s < zs.length
      · rw [placesGo_step hlt, coverP_cons]
        intro x hx
        rcases List.mem_cons.1 hx with e | e
        · subst e
          refine rootZ_bd 4 _ (h.seg _ _) ?_
          rw [segG_length _ _ _ (by have := sizeAt_le s (zs.length - s) (by omega); omega)]
          exact sizeAt_pos _ _
        · exact ih _ x e
      · rw [placesGo_stop hlt]; intro x hx; cases hx
  exact key 17 s

def foldFrom (n : Int) (zs : List Int) (k : Nat) : Int := foldZ n (zs.take k)
theorem foldFrom_step (n : Int) (zs : List Int) (k : Nat) (h : k < zs.length) : foldFrom n zs (k + 1) = pairZ (foldFrom n zs k) (nth zs k) := by
  unfold foldFrom foldZ foldG nth
  rw [List.take_succ_eq_append_getElem h, List.foldl_append, List.getD_eq_getElem?_getD, List.getElem?_eq_getElem h]
  rfl
theorem foldFrom_bd (n : Int) (zs : List Int) (k : Nat) (h0 : 0 ≤ n) (h1 : n < 991) (h : k ≤ zs.length) : 0 ≤ foldFrom n zs k ∧ foldFrom n zs k < 991 := by
  cases k with
  | zero => exact ⟨h0, h1⟩
  | succ k => rw [foldFrom_step n zs k (by omega)]; exact pairZ_bd _ _

set_option maxHeartbeats 800000 in
theorem sfold_any (m : Int) (A : Option Addr) (cap : Nat) (zs : List Int) (w : World) (hI : IntsAt w w.heap.size A zs) (hm : zs.length ≤ maxLen) (h0 : 0 ≤ m) (h1 : m < 991) (hd : Digs zs) :
    Calls Try.prog 95 #[.int .i64 m, .slice A zs.length cap] w fun e w' => e = .returned (.int .i64 (foldZ m zs)) ∧ w = w' := by
  unfold maxLen at hm
  have HI := Lib.hid hI
  have HD := Lib.hid hd
  clear hI hd
  obtain ⟨n, HN⟩ : ∃ n, Hid (zs.length = n) := ⟨_, rfl⟩
  rw [HN.out] at hm ⊢
  go_enter Try.func95, Try.ntmps95
  go_wp2
  go_loop [5, 6] (fun x i => ∃ k : Nat, k ≤ n ∧ i = .int .i64 k ∧ x = .int .i64 (foldFrom m zs k)) (fun _ i => n - (intOf i).toNat)
  case atStart => exact ⟨0, Nat.zero_le _, rfl, rfl⟩
  case round =>
    obtain ⟨k, hk, rfl, rfl⟩ := hrel
    obtain ⟨hb0, hb1⟩ := foldFrom_bd m zs k h0 h1 (by rw [HN.out]; exact hk)
    by_cases hlt : k < n
    · have hlz : k < zs.length := by rw [HN.out]; exact hlt
      have HS := Lib.hid (foldFrom_step m zs k hlz)
      obtain ⟨hv0, hv1⟩ := HD.out.at_ k hlz
      obtain ⟨b, o, rfl, hb, hc⟩ := HI.out (by omega)
      have hck := hc k hlz
      clear hc hlz
      go_wp2_with fail
      refine (spair1_any _ _ _ (by omega) (by omega) (by omega) (by omega)).mono ?_
      rintro e w' ⟨rfl, rfl⟩
      go_wp2
      go_round
      case rel => exact ⟨k + 1, by omega, by go_num, by rw [HS.out]⟩
      case measure => simp [intOf]; omega
    · have HE : Hid (foldFrom m zs k = foldZ m zs) := by show _ = _; unfold foldFrom; rw [List.take_of_length_le (by rw [HN.out]; omega)]
      go_wp2
      go_ret
      exact ⟨ret_int HE.out, rfl⟩

/-- What TreePeaks and TreeDigest return. -/
def peaksOr (zs : List Int) : List Int := if leavesB zs = true then coverZ zs 0 else []
def digestOr (zs : List Int) : Int := if leavesB zs = true then digestZ zs else -1



set_option maxHeartbeats 800000 in
theorem sdigest_any (zs : List Int) (b o cap : Nat) (w : World) (hI : IntsAt w w.heap.size (some ⟨b, o, none⟩) zs) (hcap : zs.length ≤ cap) (hmax : cap ≤ maxLen) :
    Calls Try.prog 53 #[.slice (some ⟨b, o, none⟩) zs.length cap] w fun e w' => e = .returned (.int .i64 (digestOr zs)) ∧ Below w.heap.size w w' := by
  have HI := Lib.hid hI
  have HM := Lib.hid hmax
  have HC := Lib.hid hcap
  clear hI hmax hcap
  cases hv : leavesB zs with
  | true =>
    have HE : Hid (digestOr zs = digestZ zs) := by show _ = _; unfold digestOr; rw [hv]; rfl
    obtain ⟨h16, hd⟩ := leavesB_yes hv
    have HV := Lib.hid hv
    have HD := Lib.hid hd
    clear hv hd
    rw [HE.out]
    go_enter Try.func53, Try.ntmps53
    go_wp2_with fail
    refine (sdigs_any _ _ zs _ HI.out (Nat.le_trans HC.out HM.out)).mono ?_
    rintro e w' ⟨rfl, rfl⟩
    rw [HV.out]
    go_wp2_with fail
    refine (scover_any zs b o cap 0 _ HI.out h16 HC.out HM.out HD.out (by omega)).mono ?_
    rintro e w1 ⟨A, c, rfl, hown, hbel⟩
    have HO := Lib.hid hown
    have HB := Lib.hid hbel
    clear hown hbel
    go_wp2_with fail
    refine (sfold_any _ A c (coverZ zs 0) _ HO.out.ints (Nat.le_trans HO.out.le.1 HO.out.le.2) (by omega) (by omega) (coverZ_digs zs 0 HD.out h16)).mono ?_
    rintro e w' ⟨rfl, rfl⟩
    go_wp2
    go_ret
    exact ⟨rfl, HB.out⟩
  | false =>
    have HE : Hid (digestOr zs = -1) := by show _ = _; unfold digestOr; rw [hv]; rfl
    have HV := Lib.hid hv
    clear hv
    rw [HE.out]
    go_enter Try.func53, Try.ntmps53
    go_wp2_with fail
    refine (sdigs_any _ _ zs _ HI.out (Nat.le_trans HC.out HM.out)).mono ?_
    rintro e w' ⟨rfl, rfl⟩
    rw [HV.out]
    go_wp2
    go_ret
    exact ⟨rfl, Below.refl _ _⟩

end Go.Proofs.Ytgpmodidpdjhkaa
