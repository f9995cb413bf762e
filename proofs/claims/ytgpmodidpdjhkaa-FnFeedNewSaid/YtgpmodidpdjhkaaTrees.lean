/- Contracts of treeSizes, treesOf, treeRoots, peaksDigest, TreePeaks and TreeDigest. Conditions: the leaves lie in memory; of the inner functions, that they are valid. -/
import Derived.Test.YtgpmodidpdjhkaaPtrs
import Derived.Test.YtgpmodidpdjhkaaSpecCover
namespace Go.Proofs.Ytgpmodidpdjhkaa
open Go.RowKit
set_option linter.unusedVariables false

def natsZ (l : List Nat) : List Int := l.map Int.ofNat
theorem natsZ_length (l : List Nat) : (natsZ l).length = l.length := List.length_map _
theorem natsZ_nth (l : List Nat) (k : Nat) : nth (natsZ l) k = (l.getD k 0 : Nat) := by
  unfold nth natsZ
  rw [List.getD_eq_getElem?_getD, List.getD_eq_getElem?_getD, List.getElem?_map]
  cases l[k]? <;> rfl

/-- Where the loop over sizes stands. -/
structure SizesAt (w : World) (s0 n : Nat) (A : Option Addr) (c : Nat) (ds : List Nat) (s f : Nat) (w' : World) : Prop where
  own : OwnInts w' w.heap.size A c (natsZ ds)
  below : Below w.heap.size w w'
  rest : ds ++ (placesGo f s n).map (·.2) = sizesOf s0 n
  fuel : n < s + f
  short : ds.length ≤ s

set_option maxHeartbeats 2000000 in
theorem sizes_any (s0 n : Nat) (w : World) (hn : n ≤ 16) (hs0 : s0 ≤ n) :
    Calls Try.prog 66 #[.int .i64 (s0 : Int), .int .i64 (n : Int)] w (RetInts w (natsZ (sizesOf s0 n))) := by
  go_enter Try.func66, Try.ntmps66
  go_wp2
  go_loopw [0, 5] (fun i x w' => ∃ (A : Option Addr) (c : Nat) (ds : List Nat) (s f : Nat), s ≤ n ∧ x = .slice A ds.length c ∧ i = .int .i64 s ∧ SizesAt w s0 n A c ds s f w') (fun i _ _ => n - (intOf i).toNat)
  case atStart =>
    refine ⟨none, 0, [], s0, 17, by omega, rfl, rfl, ?_⟩
    exact ⟨World.ownsRow_nil _ _ _ _, Below.refl _ _, rfl, by omega, by simp⟩
  case round =>
    obtain ⟨A, c, ds, s, f, hs, rfl, rfl, hC⟩ := hrel
    have HC := Lib.hid hC
    clear hC
    by_cases hlt : s < n
    · obtain ⟨f, rfl⟩ : ∃ f', f = f' + 1 := by
        cases f with
        | zero => have := HC.out.fuel; omega
        | succ f => exact ⟨f, rfl⟩
      go_wp2_with fail
      rw [show ((n : Int) - (s : Int)) = ((n - s : Nat) : Int) from by omega]
      refine (size_any _ _ _ (by omega) (by omega) (by omega)).mono ?_
      rintro e w1 ⟨rfl, rfl⟩
      obtain ⟨k, HK⟩ : ∃ k, Hid (sizeAt s (n - s) = k) := ⟨_, rfl⟩
      rw [HK.out]
      have hk1 : 1 ≤ k := by rw [← HK.out]; exact sizeAt_pos _ _
      have hk2 : k ≤ n - s := by rw [← HK.out]; exact sizeAt_le _ _ (by omega)
      have hb0 : w.heap.size ≤ wr.heap.size := HC.out.below.size
      have hdl : ds.length ≤ 16 := by have := HC.out.short; omega
      go_wp2_with (at_builtin; refine wpList_app_ints rfl (.tmp 15) (.tmp 17) rfl _ w.heap.size A c (natsZ ds) (by rw [natsZ_length]; rfl) _ _ [(k : Int)] rfl (HC.out.own.alloc _) (one_new _ _) (by rw [natsZ_length]; simp; omega) (by simp; omega) (by simp) ?_; intro v w3 hA)
      obtain ⟨⟨A', c', rfl, hown⟩, hg, hbel⟩ := hA
      have HO : Hid (OwnInts w3 w.heap.size A' c' (natsZ (ds ++ [k]))) := by
        show OwnInts _ _ _ _ _
        unfold natsZ
        rw [List.map_append]
        exact hown
      have HB := Lib.hid hbel
      have hlen : (natsZ ds ++ [(k : Int)]).length = (ds ++ [k]).length := by rw [List.length_append, List.length_append, natsZ_length]; rfl
      rw [hlen]
      clear hown hg hbel hlen
      go_wp2
      go_roundw
      case rel =>
        refine ⟨A', c', ds ++ [k], s + k, f, by omega, by simp, by go_num, ?_⟩
        have hC := HC.out
        refine ⟨HO.out, ?_, ?_, ?_, ?_⟩
        · exact (hC.below.alloc (by omega) _).trans HB.out
        · rw [← hC.rest, placesGo_step hlt, List.append_assoc]
          show ds ++ ([k] ++ _) = _
          rw [HK.out]
          rfl
        · have := hC.fuel; omega
        · have := hC.short; simp; omega
      case measure => simp [intOf]; omega
    · have HE : Hid (ds = sizesOf s0 n) := by
        show _ = _
        rw [← HC.out.rest, placesGo_stop hlt]
        simp
      go_wp2
      go_ret
      refine ⟨A, c, ?_, ?_, HC.out.below⟩
      · rw [← HE.out, natsZ_length]; rfl
      · rw [← HE.out]; exact HC.out.own

theorem drop_cons {α : Type} {l : List α} {k : Nat} {a : α} {t : List α} (h : l.drop k = a :: t) (z : α) : l.getD k z = a ∧ l.drop (k + 1) = t ∧ k < l.length := by
  have hk : k < l.length := by
    rcases Nat.lt_or_ge k l.length with h1 | h1
    · exact h1
    · rw [List.drop_eq_nil_of_le h1] at h; cases h
  rw [List.drop_eq_getElem_cons hk] at h
  injection h with h1 h2
  exact ⟨by rw [List.getD_eq_getElem?_getD, List.getElem?_eq_getElem hk]; exact h1, h2, hk⟩
theorem sizesOf_getD (s n k : Nat) (h : k < (places s n).length) : (sizesOf s n).getD k 0 = ((places s n).getD k (0, 1)).2 := by
  unfold sizesOf
  rw [List.getD_eq_getElem?_getD, List.getD_eq_getElem?_getD, List.getElem?_map, List.getElem?_eq_getElem h]
  rfl
theorem sizesOf_length (s n : Nat) : (sizesOf s n).length = (places s n).length := List.length_map _

/-- The tree at a place. -/
def TreeOk (w : World) (zs : List Int) (g : Nat) (p : Nat × Nat) : Prop := ∃ d, d ≤ 4 ∧ p.2 = 2 ^ d ∧ TreeAt w d g (segG zs p.1 p.2)
theorem TreeOk.kept {w w' : World} {zs : List Int} {g : Nat} {p : Nat × Nat} (h : TreeOk w zs g p) (hk : Kept w w') : TreeOk w' zs g p := by
  obtain ⟨d, h1, h2, h3⟩ := h
  exact ⟨d, h1, h2, h3.kept hk⟩
/-- The trees at all places. -/
structure TreesOk (w : World) (zs : List Int) (gs : List Nat) (ps : List (Nat × Nat)) : Prop where
  same : gs.length = ps.length
  tree : ∀ k, k < ps.length → TreeOk w zs (gth gs k) (ps.getD k (0, 1))
theorem TreesOk.kept {w w' : World} {zs : List Int} {gs : List Nat} {ps : List (Nat × Nat)} (h : TreesOk w zs gs ps) (hk : Kept w w') : TreesOk w' zs gs ps :=
  ⟨h.same, fun k hk' => (h.tree k hk').kept hk⟩

structure TreesLoop (w1 : World) (zs : List Int) (s0 n : Nat) (A : Option Addr) (c : Nat) (gs : List Nat) (k s f : Nat) (w' : World) : Prop where
  own : OwnPtrs w' w1.heap.size A c gs
  below : Below w1.heap.size w1 w'
  rest : (places s0 n).drop k = placesGo f s n
  fuel : n < s + f
  len : gs.length = k
  trees : ∀ j, j < k → TreeOk w' zs (gth gs j) ((places s0 n).getD j (0, 1))

/-- What treesOf hands back. -/
def RetTrees (w : World) (zs : List Int) (ps : List (Nat × Nat)) (e : Ending) (w' : World) : Prop :=
  ∃ A cap gs, e = .returned (.slice A gs.length cap) ∧ OwnPtrs w' w.heap.size A cap gs ∧ TreesOk w' zs gs ps ∧ Below w.heap.size w w'

theorem gth_snoc (gs : List Nat) (g j : Nat) : gth (gs ++ [g]) j = if j < gs.length then gth gs j else if j = gs.length then g else 0 := by
  unfold gth
  rw [List.getD_eq_getElem?_getD, List.getD_eq_getElem?_getD]
  by_cases h : j < gs.length
  · rw [if_pos h, List.getElem?_append_left h]
  · rw [if_neg h, List.getElem?_append_right (by omega)]
    by_cases e : j = gs.length
    · rw [if_pos e, e, Nat.sub_self]; rfl
    · rw [if_neg e, List.getElem?_eq_none (by simp; omega)]; rfl

/-- An append to a slice of pointers keeps all nodes. -/
theorem Kept.appended {W w' : World} {base : Nat} {A : Option Addr} {n c : Nat} {ds zs : List Nat} {v : Value} (hown : OwnPtrs W base A c ds) (h : AppendedP W base A ds.length c zs v w') : Kept W w' :=
  fun g r s x y hn => Blk.grown hn h.grown (fun e => own_blk_ne hown hn (by decide) e.symm)

theorem places_length_le (s n : Nat) : (places s n).length ≤ 17 := by
  have key : ∀ f s, (placesGo f s n).length ≤ f := by
    intro f
    induction f with
    | zero => intro s; exact Nat.le_refl _
    | succ f ih =>
      intro s
      by_cases h : s < n
      · rw [placesGo_step h, List.length_cons]; have := ih (s + sizeAt s (n - s)); omega
      · rw [placesGo_stop h]; simp
  exact key 17 s

set_option maxHeartbeats 2000000 in
theorem trees_any (zs : List Int) (b o cap s0 : Nat) (w : World) (hI : IntsAt w w.heap.size (some ⟨b, o, none⟩) zs) (h16 : zs.length ≤ 16) (hcap : zs.length ≤ cap) (hmax : cap ≤ maxLen) (hd : Digs zs) (hs0 : s0 ≤ zs.length) :
    Calls Try.prog 59 #[.slice (some ⟨b, o, none⟩) zs.length cap, .int .i64 (s0 : Int)] w (RetTrees w zs (places s0 zs.length)) := by
  obtain ⟨n, HN⟩ : ∃ n, Hid (zs.length = n) := ⟨_, rfl⟩
  have HI := Lib.hid hI
  have HD := Lib.hid hd
  rw [HN.out] at h16 hcap hs0 ⊢
  unfold maxLen at hmax
  clear hI hd
  have hpl := places_length_le s0 n
  obtain ⟨m, HM⟩ : ∃ m, Hid ((places s0 n).length = m) := ⟨_, rfl⟩
  rw [HM.out] at hpl
  go_enter Try.func59, Try.ntmps59
  go_wp2_with fail
  refine (sizes_any s0 n _ h16 hs0).mono ?_
  rintro e w1 ⟨B, c2, rfl, hown, hbel⟩
  have HO := Lib.hid hown
  have HB := Lib.hid hbel
  clear hown hbel
  rw [natsZ_length, sizesOf_length, HM.out]
  go_wp2
  go_loopw [1, 5, 13] (fun st tr ix w' => ∃ (A : Option Addr) (c : Nat) (gs : List Nat) (k s f : Nat), k ≤ m ∧ s ≤ n ∧ st = .int .i64 s ∧ tr = .slice A gs.length c ∧ ix = .int .i64 k ∧ TreesLoop w1 zs s0 n A c gs k s f w') (fun _ _ ix _ => m - (intOf ix).toNat)
  case atStart =>
    refine ⟨none, 0, [], 0, s0, 17, by omega, hs0, rfl, rfl, rfl, ?_⟩
    exact ⟨World.ownsRow_nil _ _ _ _, Below.refl _ _, rfl, by omega, rfl, fun j hj => absurd hj (by omega)⟩
  case round =>
    obtain ⟨A, c, gs, k, s, f, hk, hs, rfl, rfl, rfl, hC⟩ := hrel
    have HC := Lib.hid hC
    clear hC
    by_cases hlt : k < m
    · have hsn : s < n := by
        rcases Nat.lt_or_ge s n with h | h
        · exact h
        · have h1 := HC.out.rest
          rw [placesGo_stop (by omega)] at h1
          have := congrArg List.length h1
          rw [List.length_drop, HM.out] at this
          simp at this
          omega
      obtain ⟨f, rfl⟩ : ∃ f', f = f' + 1 := by
        cases f with
        | zero => have := HC.out.fuel; omega
        | succ f => exact ⟨f, rfl⟩
      obtain ⟨q, HK⟩ : ∃ q, Hid (sizeAt s (n - s) = q) := ⟨_, rfl⟩
      have hk1 : 1 ≤ q := by rw [← HK.out]; exact sizeAt_pos _ _
      have hk2 : q ≤ n - s := by rw [← HK.out]; exact sizeAt_le _ _ (by omega)
      have hst := HC.out.rest
      rw [placesGo_step hsn, HK.out] at hst
      obtain ⟨hg0, hdrop, hkl⟩ := drop_cons hst (0, 1)
      obtain ⟨d, hd4, hdq⟩ := sizeAt_pow s (n - s) (by omega) (by omega)
      rw [HK.out] at hdq
      have HG := Lib.hid hg0
      have HDR := Lib.hid hdrop
      have HDQ := Lib.hid hdq
      have hI2 := (HO.out.ints.below HC.out.below (Nat.le_refl _))
      have hkz : k < (natsZ (sizesOf s0 n)).length := by rw [natsZ_length, sizesOf_length]; exact hkl
      obtain ⟨b2, o2, rfl, hb2, hcell⟩ := hI2 (by omega)
      have hck := hcell k hkz
      rw [natsZ_nth, sizesOf_getD s0 n k hkl, hg0] at hck
      clear hst hg0 hdrop hkl hdq hI2 hkz hcell
      have hi1 : (s : Int) ≤ (s : Int) + (q : Int) := by omega
      have hi2 : (s : Int) + (q : Int) ≤ (cap : Int) := by omega
      have hne : ¬ cap = s := by omega
      have hseg : (segG zs s q).length = q := segG_length zs s q (by rw [HN.out]; omega)
      have C : Hid (Calls Try.prog 100 #[.slice (some ⟨b, o + s, none⟩) q (cap - s)] wr (Treed wr d (segG zs s q))) := by
        have hbw : Below w.heap.size w wr := HB.out.trans (HC.out.below.mono HB.out.size)
        have hp := ((HI.out.part s q rfl).below hbw (Nat.le_refl _)).more hbw.size
        have := treeOf_go d (segG zs s q) b (o + s) (cap - s) wr hp (by rw [hseg]; exact HDQ.out) hd4 (by omega) (by unfold maxLen; omega) (HD.out.seg s q)
        rw [hseg] at this
        exact this
      clear hseg
      go_wp2_with fail
      refine C.out.mono ?_
      rintro e w2 ⟨g, rfl, ht, hb⟩
      have HT := Lib.hid ht
      have HB2 := Lib.hid hb
      clear ht hb
      have hb0 : w1.heap.size ≤ wr.heap.size := HC.out.below.size
      have hb1 : wr.heap.size ≤ w2.heap.size := HB2.out.size
      have hgl : gs.length ≤ 17 := by have := HC.out.len; omega
      go_wp2_with (at_builtin; refine wpList_app_ptrs rfl (.tmp 17) (.tmp 25) rfl _ w1.heap.size A c gs rfl _ _ [g] rfl ((HC.out.own.below HB2.out).alloc _) (one_newP _ _) (by simp; omega) (by simp; omega) (by simp) ?_; intro v w3 hA)
      have HA := Lib.hid hA
      obtain ⟨⟨A', c', rfl, hown⟩, hg, hbel⟩ := hA
      have HO3 := Lib.hid hown
      have HB3 := Lib.hid hbel
      clear hown hg hbel
      go_wp2
      go_roundw
      case rel =>
        have hC := HC.out
        have hkept : Kept w2 w3 := (Kept.alloc w2 _).trans (Kept.appended (n := 0) ((hC.own.below HB2.out).alloc _) HA.out)
        refine ⟨A', c', gs ++ [g], k + 1, s + q, f, by omega, by omega, by go_num, by simp, by go_num, ?_⟩
        refine ⟨HO3.out, ?_, ?_, ?_, ?_, ?_⟩
        · exact ((hC.below.trans (HB2.out.mono hb0)).alloc (by omega) _).trans HB3.out
        · exact HDR.out
        · have := hC.fuel; omega
        · rw [List.length_append, hC.len]; rfl
        · intro j hj
          rw [gth_snoc, hC.len]
          by_cases hjk : j < k
          · rw [if_pos hjk]
            exact (hC.trees j hjk).kept ((Kept.of_below HB2.out).trans hkept)
          · have : j = k := by omega
            subst this
            rw [if_neg hjk, if_pos rfl, HG.out]
            exact ⟨d, hd4, HDQ.out, HT.out.kept hkept⟩
      case measure => simp [intOf]; omega
    · have hkm : k = m := by omega
      subst hkm
      go_wp2
      go_ret
      have hC := HC.out
      refine ⟨A, c, gs, rfl, ?_, ⟨by rw [hC.len, HM.out], fun j hj => hC.trees j (by rw [HM.out] at hj; exact hj)⟩, HB.out.trans (hC.below.mono HB.out.size)⟩
      exact hC.own.base_le HB.out.size

end Go.Proofs.Ytgpmodidpdjhkaa
