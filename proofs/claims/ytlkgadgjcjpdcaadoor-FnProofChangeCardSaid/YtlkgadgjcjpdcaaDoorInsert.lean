/- Contract of slices.Insert of one pointer into a slice of the call's own. Conditions: the index is in order; the pointer lies in a block of its own. -/
import Derived.Test.YtlkgadgjcjpdcaaDoorDelete
import Derived.Test.YtlkgadgjcjpdcaaDoorTrees
import Derived.Shelf.Spec.SlicesInsertGrow
namespace Go.Proofs.YtlkgadgjcjpdcaaDoor
open Go.RowKit
set_option linter.unusedVariables false

/-- What slices.Insert hands back. -/
def Inserted (w : World) (base : Nat) (gs : List Nat) (e : Ending) (w' : World) : Prop :=
  ∃ A c, e = .returned (.slice A gs.length c) ∧ OwnPtrs w' base A c gs ∧ Below base w w' ∧ Kept w w'

theorem insert_split {α : Type} (a : α) : ∀ (l : List α) (p : Nat), p ≤ l.length → l.insertIdx p a = l.take p ++ a :: l.drop p := by
  intro l
  induction l with
  | nil =>
    intro p hp
    have : p = 0 := by simpa using hp
    subst this
    rfl
  | cons b l ih =>
    intro p hp
    cases p with
    | zero => rfl
    | succ p =>
      rw [List.insertIdx_succ_cons, ih p (by simpa using hp)]
      rfl
theorem insert_ptrs (gs : List Nat) (p g : Nat) (hp : p ≤ gs.length) : (ptrs gs).take p ++ [ptr g] ++ (ptrs gs).drop p = ptrs (gs.insertIdx p g) := by
  unfold ptrs
  rw [insert_split g gs p hp, ← List.map_take, ← List.map_drop]
  simp
theorem setCells_drew (b : Nat) : ∀ (vs : List Value) (o : Nat) (w : World), (w.drew.setCells b o vs).heap = (w.setCells b o vs).heap := by
  intro vs
  induction vs with
  | nil => intro o w; rfl
  | cons v r ih => intro o w; exact ih (o + 1) (w.setCell ⟨b, o, none⟩ v)

theorem setCells_rest (b : Nat) : ∀ (vs : List Value) (o : Nat) (w : World), (w.setCells b o vs).os = w.os ∧ (w.setCells b o vs).tape = w.tape ∧ (w.setCells b o vs).output = w.output := by
  intro vs
  induction vs with
  | nil => intro o w; exact ⟨rfl, rfl, rfl⟩
  | cons v r ih => intro o w; exact ih (o + 1) (w.setCell ⟨b, o, none⟩ v)

set_option maxHeartbeats 4000000 in
set_option maxRecDepth 100000 in
theorem ins_end (gs : List Nat) (g : Nat) (base : Nat) (A : Option Addr) (c vb : Nat) (w : World) (hO : OwnPtrs w base A c gs) (hV : Blk w vb 45 #[ptr g]) (hn : gs.length ≤ 100) (hbase : base ≤ w.heap.size) :
    Calls Tryd.prog 41 #[.slice A gs.length c, .int .i64 (gs.length : Int), .slice (some ⟨vb, 0, none⟩) 1 1] w (Inserted w base (gs ++ [g])) := by
  have HO := Lib.hid hO
  have hle := hO.le
  have hm := hle.2
  have hcn : (gs.length : Int) ≤ (c : Int) := by have := hle.1; omega
  unfold maxLen at hm
  have HI : Hid (PtrsAt w w.heap.size (some ⟨vb, 0, none⟩) [g]) := fun _ => ⟨vb, 0, rfl, hV.lt, fun k hk => by
    have : k = 0 := by simp at hk; omega
    subst this
    exact hV.cell 0⟩
  obtain ⟨n, HN⟩ : ∃ n, Hid (gs.length = n) := ⟨_, rfl⟩
  rw [HN.out] at hcn hn ⊢
  have hz1 : ((1 : Int) == 0) = false := by decide
  clear hO hV hle
  go_enter Tryd.func41, Tryd.ntmps41
  go_wp2_with (at_builtin; refine wpList_app_ptrs rfl (.tmp 23) (.tmp 24) rfl _ base A c gs (by rw [HN.out]; rfl) _ _ [g] rfl HO.out HI.out (by rw [HN.out]; simp; omega) hbase (by simp) ?_; intro v w3 hA; have HKA := Lib.hid (Kept.appended (n := 0) HO.out hA); obtain ⟨⟨A3, c3, rfl, hown3⟩, hg3, hb3⟩ := hA; have HO3 := Lib.hid hown3; have HB3 := Lib.hid hb3; clear hown3 hg3 hb3)
  all_goals
    go_ret
    exact ⟨A3, c3, by simp, HO3.out, HB3.out, HKA.out⟩

/-- One element more of a row that has room. -/
theorem own_more {w : World} {base g n cap : Nat} {e : TypeId} {xs : List Value} (h : w.ownsRow base e 1 (.slice (some ⟨g, 0, none⟩) n cap) n xs) (hr : n + 1 ≤ cap) : ∃ u, w.ownsRow base e 1 (.slice (some ⟨g, 0, none⟩) (n + 1) cap) (n + 1) (xs ++ [u]) := by
  have h0 := h.1
  rcases h.2 with ⟨hv, _⟩ | ⟨g', c, cur, hv, hb, hh, h1, h2, h3, h4⟩
  · injection hv with hA _ _; cases hA
  · injection hv with hA _ hc
    injection hA with hA
    injection hA with hA _ _
    subst hA hc
    have hn : n < cur.toList.length := by rw [Array.length_toList]; omega
    refine ⟨cur.toList[n], by rw [List.length_append, h0]; simp, .inr ⟨g, cap, cur, rfl, hb, hh, hr, h2, h3, ?_⟩⟩
    rw [Nat.mul_one] at h4 ⊢
    rw [List.take_succ_eq_append_getElem hn, h4]

theorem list_shift {α : Type} (xs : List α) (u v : α) (p n : Nat) (hx : xs.length = n) (hp : p < n) :
    (((xs ++ [u]).take (p + 1) ++ xs.drop p ++ (xs ++ [u]).drop (p + 1 + (xs.drop p).length)).take p ++ [v] ++ ((xs ++ [u]).take (p + 1) ++ xs.drop p ++ (xs ++ [u]).drop (p + 1 + (xs.drop p).length)).drop (p + 1)) = xs.take p ++ [v] ++ xs.drop p := by
  have h1 : (xs ++ [u]).drop (p + 1 + (xs.drop p).length) = [] := List.drop_eq_nil_of_le (by simp; omega)
  have h2 : ((xs ++ [u]).take (p + 1)).length = p + 1 := by simp; omega
  rw [h1, List.append_nil, List.take_append_of_le_length (by omega), List.take_take, Nat.min_eq_left (by omega), List.take_append_of_le_length (by omega)]
  have h3 : ((xs ++ [u]).take (p + 1) ++ xs.drop p).drop (p + 1) = xs.drop p := by
    have := List.drop_left (l₁ := (xs ++ [u]).take (p + 1)) (l₂ := xs.drop p)
    rw [h2] at this
    exact this
  rw [h3]

set_option maxHeartbeats 4000000 in
set_option maxRecDepth 100000 in
theorem ins_shift (gs : List Nat) (p g base b c vb : Nat) (w : World) (hO : OwnPtrs w base (some ⟨b, 0, none⟩) c gs) (hV : Blk w vb 45 #[ptr g]) (hp : p < gs.length) (hroom : gs.length + 1 ≤ c) (hvb : vb ≠ b) (hn : gs.length ≤ 100) (hbase : base ≤ w.heap.size) :
    Calls Tryd.prog 41 #[.slice (some ⟨b, 0, none⟩) gs.length c, .int .i64 (p : Int), .slice (some ⟨vb, 0, none⟩) 1 1] w (Inserted w base (gs.insertIdx p g)) := by
  obtain ⟨i0, hi0, hz0, hzs, hz2⟩ := info_parts ptr_info
  have hsz : (Tryd.prog.info? 45).map (·.size) = some 1 := by rw [hi0]; simp [hzs]
  have hle := hO.le
  have hbb : base ≤ b := hO.far (n := 0) b rfl
  obtain ⟨cur, hcur, hcs⟩ : ∃ cur, Blk w b 45 cur ∧ cur.size = c := by
    rcases hO.2 with ⟨hv, _⟩ | ⟨g', c', cur, hv, hb, hh, h1, h2, h3, h4⟩
    · injection hv with hA _ _; cases hA
    · injection hv with hA _ hc
      injection hA with hA
      injection hA with hA _ _
      subst hA hc
      exact ⟨cur, hh, by rw [h3, Nat.mul_one]⟩
  have HCUR := Lib.hid hcur
  have hown0 : w.ownsRow base 45 1 (.slice (some ⟨b, 0, none⟩) gs.length c) gs.length (ptrs gs) := hO
  have hov : ∀ lb cb, (callFunc 58 #[.slice (some ⟨vb, 0, none⟩) 1 1, .slice (some ⟨b, p + 1, none⟩) lb cb]).run Tryd.prog w = .ok (.value (.bool false)) w := fun lb cb => by
    rw [run_callFunc_extern Tryd.func58 (by kernel_rfl) (by kernel_rfl) (by kernel_rfl) (e := Extern.SlicesOverlaps.overlaps #[41, 41] #[4]) (by kernel_rfl),
      Lib.run_overlaps_apart w 41 4 45 Tryd.underlying41 1 (fun w => by simp [sizeOf, typeInfo, hi0, hzs]) ⟨vb, 0, none⟩ ⟨b, p + 1, none⟩ 1 1 lb cb hvb 45 45 1 c (by unfold Blk at hV; simp [World.shape?, hV]) (by unfold Blk at hcur; simp [World.shape?, hcur, hcs]) (by omega) (by unfold Blk at hV; simp [World.frozen?, hV]) (by unfold Blk at hV; simp [World.frozen?, hV])]
    rfl
  obtain ⟨u, hmore⟩ := own_more hown0 hroom
  obtain ⟨n, HN⟩ : ∃ n, Hid (gs.length = n) := ⟨_, rfl⟩
  have hgn : gs.length = n := HN.out
  have hpl : (ptrs gs).length = n := by rw [ptrs_length, HN.out]
  have hdl : ((ptrs gs).drop p).length = n - p := by rw [List.length_drop, hpl]
  have hcp1 : ∀ ty dc sc, (Builtin.copy_ #[41, 41] ty #[.slice (some ⟨b, p + 1, none⟩) (n - p) dc, .slice (some ⟨b, p, none⟩) (n + 1 - p) sc]).run Tryd.prog w.drew = .ok (goInt ((ptrs gs).drop p).length) (w.drew.setCells b (p + 1) ((ptrs gs).drop p)) := fun ty dc sc =>
    run_copy_cells w.drew _ _ ty 45 b (p + 1) (n - p) dc ⟨b, p, none⟩ (n + 1 - p) sc ((ptrs gs).drop p) Tryd.underlying41 hsz (by rw [hdl]; simp only [Nat.min_def]; split <;> omega)
      (fun j v hj => by rw [Addr.add_lit]; rw [List.getElem?_drop] at hj; exact own_reads hown0 (p + j) v hj)
      (fun j hj => (own_cells hown0 _ (by rw [hdl] at hj; omega)).1) (fun j hj => (own_cells hown0 _ (by rw [hdl] at hj; omega)).2) (fun v hv => ptrs_one gs v (List.mem_of_mem_drop hv))
  obtain ⟨W1, HW1⟩ : ∃ W1, Hid (w.drew.setCells b (p + 1) ((ptrs gs).drop p) = W1) := ⟨_, rfl⟩
  have hm1 : W1.ownsRow base 45 1 (.slice (some ⟨b, 0, none⟩) (gs.length + 1) c) (gs.length + 1) (setMany (ptrs gs ++ [u]) (p + 1) ((ptrs gs).drop p)) ∧ w.grownBy W1 (some b) := by
    rw [← HW1.out]
    have h := own_setCells ((ptrs gs).drop p) (p + 1) w.drew _ hmore
    exact ⟨h.1, ⟨h.2.os, h.2.tape, h.2.output, h.2.size, h.2.block⟩⟩
  have hvW : Blk W1 vb 45 #[ptr g] := hV.grown hm1.2 (fun e => by injection e with e; exact hvb e)
  have hcp2 : ∀ (W : World), (∀ x, W.cell? x = W1.cell? x) → (∀ x, W.frozen? x = W1.frozen? x) → ∀ ty dc, (Builtin.copy_ #[41, 41] ty #[.slice (some ⟨b, p, none⟩) (n + 1 - p) dc, .slice (some ⟨vb, 0, none⟩) 1 1]).run Tryd.prog W = .ok (goInt [ptr g].length) (W.setCells b p [ptr g]) := fun W hWc hWf ty dc =>
    run_copy_cells W _ _ ty 45 b p (n + 1 - p) dc ⟨vb, 0, none⟩ 1 1 [ptr g] Tryd.underlying41 hsz (by simp only [Nat.min_def]; split <;> simp <;> omega)
      (fun j v hj => by
        have hj0 : j = 0 := by
          rcases j with _ | j
          · rfl
          · simp at hj
        subst hj0
        rw [Addr.add_lit, hWc]
        simp at hj
        subst hj
        exact hvW.cell 0)
      (fun j hj => by rw [hWc]; exact (own_cells hm1.1 _ (by simp at hj; omega)).1) (fun j hj => by rw [hWf]; exact (own_cells hm1.1 _ (by simp at hj; omega)).2) (fun v hv => by simp at hv; subst hv; rfl)
  have HEND : Hid (Inserted w base (gs.insertIdx p g) (.returned (.slice (some ⟨b, 0, none⟩) (n + 1) c)) (W1.setCells b p [ptr g])) := by
    have h2 := own_setCells [ptr g] p W1 _ hm1.1
    have e1 : setMany (setMany (ptrs gs ++ [u]) (p + 1) ((ptrs gs).drop p)) p [ptr g] = ptrs (gs.insertIdx p g) := by
      rw [setMany_eq [ptr g] _ p (by rw [setMany_length]; simp [hpl]; omega), setMany_eq _ _ (p + 1) (by rw [hdl]; simp [hpl]; omega)]
      have := list_shift (ptrs gs) u (ptr g) p n hpl (by omega)
      simp only [List.length_singleton]
      rw [this]
      exact insert_ptrs gs p g (by omega)
    have hlen : (gs.insertIdx p g).length = n + 1 := by rw [List.length_insertIdx_of_le_length (by omega), HN.out]
    rw [e1] at h2
    have hgr := World.grownBy.trans hm1.2 h2.2
    refine ⟨some ⟨b, 0, none⟩, c, by rw [hlen], ?_, (Below.refl base w).grown hgr hbase (fun k hk => by injection hk with hk; omega), ?_⟩
    · unfold OwnPtrs
      rw [hlen, ← HN.out]
      exact h2.1
    · exact fun g' r s x y hn' => Blk.grown hn' hgr (fun e => by injection e with e; exact Blk.ne_ hn' HCUR.out (by decide) e)
  have hz1 : ((1 : Int) == 0) = false := by decide
  have hm := hle.2
  unfold maxLen at hm
  rw [HN.out] at hp hroom hn ⊢
  have hz2' : ((p : Int) == (n : Int)) = false := by rw [beq_eq_false_iff_ne]; omega
  have hr1 : ¬ ((c : Int) < (n : Int) + 1) := by omega
  have hw1 : IntKind.i64.wrap ((p : Int) + 1) = (p : Int) + 1 := IntWalk.i64_in _ (by omega)
  have hb1 : (0 : Int) ≤ (p : Int) + 1 := by omega
  have htn : ((p : Int) + 1).toNat = p + 1 := by omega
  have hb2 : ¬ (c = p + 1) := by omega
  have hb3 : (p : Int) ≤ (n : Int) + 1 := by omega
  have hb4 : ¬ (c = p) := by omega
  have hb5 : (p : Int) + 1 ≤ (n : Int) + 1 := by omega
  have hb6 : (n : Int) + 1 ≤ (c : Int) := by omega
  have hb7 : (p : Int) ≤ (n : Int) := by omega
  have hb8 : (p : Int) ≤ (c : Int) := by omega
  rw [HW1.out] at hcp1
  clear hO hV hcur hown0 hmore hm1 hvW hle hdl hpl hgn
  go_enter Tryd.func41, Tryd.ntmps41
  go_wp2_with (simp only [hov])
  go_region_law (refine step_copy_runI rfl _ _ 41 41 rfl _ _ (by simp [Act.eval, Act.put]) (by simp [Act.eval, Act.put]) (hcp1 _ _ _) ?_)
  go_wp2_with (at_builtin; refine wpList_copy_runI _ rfl _ _ 41 41 rfl _ _ rfl rfl (hcp2 _ (fun _ => rfl) (fun _ => rfl) _ _) ?_)
  go_ret
  exact HEND.out


theorem nilCells (k : Nat) : (Builtin.zeroCells (Value.pointer none).cells k) = (List.replicate k (Value.pointer none)).toArray := by
  apply Array.ext'
  simp [Builtin.zeroCells, Value.cells]
  apply List.ext_getElem
  · simp
  · intro i h1 h2
    simp [Nat.mod_one]
theorem list_grow {α : Type} (xs zs : List α) (v : α) (p n : Nat) (hx : xs.length = n) (hp : p < n) (hz : zs.length = n + 1 - p) :
    ((xs.take p ++ zs).take p ++ [v] ++ (xs.take p ++ zs).drop (p + 1)).take (p + 1) ++ xs.drop p ++ ((xs.take p ++ zs).take p ++ [v] ++ (xs.take p ++ zs).drop (p + 1)).drop (p + 1 + (xs.drop p).length) = xs.take p ++ [v] ++ xs.drop p := by
  have h1 : (xs.take p).length = p := by rw [List.length_take]; omega
  have h2 : (xs.take p ++ zs).take p = xs.take p := by
    have := List.take_left (l₁ := xs.take p) (l₂ := zs)
    rw [h1] at this
    exact this
  rw [h2]
  have h3 : (xs.take p ++ [v]).length = p + 1 := by rw [List.length_append, h1]; rfl
  have h4 : (xs.take p ++ [v] ++ (xs.take p ++ zs).drop (p + 1)).take (p + 1) = xs.take p ++ [v] := by
    have := List.take_left (l₁ := xs.take p ++ [v]) (l₂ := (xs.take p ++ zs).drop (p + 1))
    rw [h3] at this
    exact this
  rw [h4]
  have h5 : (xs.take p ++ [v] ++ (xs.take p ++ zs).drop (p + 1)).drop (p + 1 + (xs.drop p).length) = [] := by
    apply List.drop_eq_nil_of_le
    rw [List.length_append, h3, List.length_drop, List.length_append, h1, hz, List.length_drop]
    omega
  rw [h5, List.append_nil]

set_option maxHeartbeats 4000000 in
set_option maxRecDepth 100000 in
theorem ins_grow (gs : List Nat) (p g base b c vb : Nat) (w : World) (hO : OwnPtrs w base (some ⟨b, 0, none⟩) c gs) (hV : Blk w vb 45 #[ptr g]) (hp : p < gs.length) (hroom : c < gs.length + 1) (hn : gs.length ≤ 100) (hbase : base ≤ w.heap.size) :
    Calls Tryd.prog 41 #[.slice (some ⟨b, 0, none⟩) gs.length c, .int .i64 (p : Int), .slice (some ⟨vb, 0, none⟩) 1 1] w (Inserted w base (gs.insertIdx p g)) := by
  obtain ⟨i0, hi0, hz0, hzs, hzb⟩ := info_parts ptr_info
  have hsz : (Tryd.prog.info? 45).map (·.size) = some 1 := by rw [hi0]; simp [hzs]
  have hle := hO.le
  have hown0 : w.ownsRow base 45 1 (.slice (some ⟨b, 0, none⟩) gs.length c) gs.length (ptrs gs) := hO
  have hbw : b < w.heap.size := (hO.ints.lt (by omega)).1
  have hvw : vb < w.heap.size := hV.lt
  obtain ⟨n, HN⟩ : ∃ n, Hid (gs.length = n) := ⟨_, rfl⟩
  have hgn : gs.length = n := HN.out
  have hpl : (ptrs gs).length = n := by rw [ptrs_length, HN.out]
  have hdl : ((ptrs gs).drop p).length = n - p := by rw [List.length_drop, hpl]
  have hik : p + (n + 1 - p) = n + 1 := by omega
  have hold : (Builtin.firstCells i0.size p (.slice (some ⟨b, 0, none⟩) p c)).run Tryd.prog w.drew = .ok ((ptrs gs).take p).toArray w.drew := by
    rw [hzs]
    exact run_firstCells_some w.drew 1 p ⟨b, 0, none⟩ p c ((ptrs gs).take p) (by rw [List.length_take, hpl]; omega) (fun j v hj => by
      rw [Addr.add_lit, Nat.zero_add]
      rw [List.getElem?_take] at hj
      split at hj
      · exact own_reads hown0 j v hj
      · cases hj)
  obtain ⟨G, HG⟩ : ∃ G, Hid (grownCap w (n + 1) c 45 = G) := ⟨_, rfl⟩
  obtain ⟨ROW, HROW⟩ : ∃ ROW : Array Value, Hid (((ptrs gs).take p).toArray ++ Builtin.zeroCells (Value.pointer none).cells (n + 1 - p) ++ Builtin.zeroCells (Value.pointer none).cells (G - (n + 1)) = ROW) := ⟨_, rfl⟩
  have hrz : ∀ ty, (Builtin.append_ #[41, 3] ty #[.slice (some ⟨b, 0, none⟩) p c, .int .i64 ((n : Int) + 1 - (p : Int))]).run Tryd.prog w = .ok (.slice (some ⟨w.heap.size, 0, none⟩) (n + 1) G) (w.drew.alloc (.cells ROW 45)) := fun ty => by
    have h := Lib.run_append_grow_zeros (P := Tryd.prog) w 41 3 ty 45 i0 _ .i64 .i64 Tryd.underlying41 Tryd.underlying3 hi0 hz0 (some ⟨b, 0, none⟩) p c ((ptrs gs).take p) hold (n + 1 - p) (by omega) (by omega) (by omega) (by omega) (by rw [hzb]; omega) (by rw [hzb, hik]; exact growslice_fits (by omega) (by omega))
    rw [hik, HG.out, HROW.out] at h
    rw [show (n : Int) + 1 - (p : Int) = ((n + 1 - p : Nat) : Int) from by omega]
    exact h
  have hGn : n + 1 ≤ G := by rw [← HG.out]; exact grownCap_ge w _ _ _
  have hGm : G ≤ maxLen := by rw [← HG.out]; exact grownCap_le_maxLen w (n + 1) c 45 (by unfold maxLen; omega)
  obtain ⟨W1, HW1⟩ : ∃ W1, Hid (w.drew.alloc (.cells ROW 45) = W1) := ⟨_, rfl⟩
  have hRs : ROW.size = G := by
    rw [← HROW.out, nilCells, nilCells]
    simp only [Array.size_append, List.size_toArray, List.length_take, List.length_replicate, hpl]
    omega
  have hRt : ROW.toList.take (n + 1) = (ptrs gs).take p ++ List.replicate (n + 1 - p) (.pointer none) := by
    rw [← HROW.out, nilCells, nilCells]
    simp only [Array.toList_append]
    exact List.take_left' (by rw [List.length_append, List.length_take, List.length_replicate, hpl]; omega)
  have hown1 : W1.ownsRow base 45 1 (.slice (some ⟨w.heap.size, 0, none⟩) (n + 1) G) (n + 1) ((ptrs gs).take p ++ List.replicate (n + 1 - p) (.pointer none)) := by
    rw [← HW1.out]
    refine ⟨by rw [List.length_append, List.length_take, List.length_replicate, hpl]; omega, .inr ⟨w.heap.size, G, ROW, rfl, hbase, heap_alloc_new w.drew _, hGn, hGm, by rw [hRs, Nat.mul_one], by rw [Nat.mul_one]; exact hRt⟩⟩
  have hgr1 : w.grownBy W1 (some w.heap.size) := by
    rw [← HW1.out]
    exact ⟨rfl, rfl, rfl, by simp, fun i hi _ => Below.heap_alloc w.drew _ i hi⟩
  have hvW : Blk W1 vb 45 #[ptr g] := hV.grown hgr1 (fun e => by injection e with e; omega)
  have hO1 : ∀ j v, (ptrs gs)[j]? = some v → W1.cell? ⟨b, j, none⟩ = some v := fun j v h => by
    rw [← HW1.out]
    exact (World.cell?_alloc_lt w.drew _ ⟨b, j, none⟩ hbw).trans (own_reads hown0 j v h)
  have hcpA : ∀ (W : World), (∀ x, W.cell? x = W1.cell? x) → (∀ x, W.frozen? x = W1.frozen? x) → ∀ ty dc, (Builtin.copy_ #[41, 41] ty #[.slice (some ⟨w.heap.size, p, none⟩) (n + 1 - p) dc, .slice (some ⟨vb, 0, none⟩) 1 1]).run Tryd.prog W = .ok (goInt [ptr g].length) (W.setCells w.heap.size p [ptr g]) := fun W hWc hWf ty dc =>
    run_copy_cells W _ _ ty 45 w.heap.size p (n + 1 - p) dc ⟨vb, 0, none⟩ 1 1 [ptr g] Tryd.underlying41 hsz (by simp only [Nat.min_def]; split <;> simp <;> omega)
      (fun j v hj => by
        have hj0 : j = 0 := by
          rcases j with _ | j
          · rfl
          · simp at hj
        subst hj0
        rw [Addr.add_lit, hWc]
        simp at hj
        subst hj
        exact hvW.cell 0)
      (fun j hj => by rw [hWc]; exact (own_cells hown1 _ (by simp at hj; omega)).1) (fun j hj => by rw [hWf]; exact (own_cells hown1 _ (by simp at hj; omega)).2) (fun v hv => by simp at hv; subst hv; rfl)
  obtain ⟨W2, HW2⟩ : ∃ W2, Hid (W1.setCells w.heap.size p [ptr g] = W2) := ⟨_, rfl⟩
  have hown2 : W2.ownsRow base 45 1 (.slice (some ⟨w.heap.size, 0, none⟩) (n + 1) G) (n + 1) (setMany ((ptrs gs).take p ++ List.replicate (n + 1 - p) (.pointer none)) p [ptr g]) ∧ W1.grownBy W2 (some w.heap.size) := by
    rw [← HW2.out]; exact own_setCells [ptr g] p W1 _ hown1
  have hcpB : ∀ (W : World), (∀ x, W.cell? x = W2.cell? x) → (∀ x, W.frozen? x = W2.frozen? x) → ∀ ty dc sc, (Builtin.copy_ #[41, 41] ty #[.slice (some ⟨w.heap.size, p + 1, none⟩) (n - p) dc, .slice (some ⟨b, p, none⟩) (n - p) sc]).run Tryd.prog W = .ok (goInt ((ptrs gs).drop p).length) (W.setCells w.heap.size (p + 1) ((ptrs gs).drop p)) := fun W hWc hWf ty dc sc =>
    run_copy_cells W _ _ ty 45 w.heap.size (p + 1) (n - p) dc ⟨b, p, none⟩ (n - p) sc ((ptrs gs).drop p) Tryd.underlying41 hsz (by rw [hdl]; simp only [Nat.min_def]; split <;> omega)
      (fun j v hj => by
        rw [Addr.add_lit, hWc]
        rw [List.getElem?_drop] at hj
        rw [← HW2.out, World.cell?_setCells_out _ _ _ _ _ (fun h _ => by exact absurd h (by show b ≠ w.heap.size; omega))]
        exact hO1 (p + j) v hj)
      (fun j hj => by rw [hWc]; exact (own_cells hown2.1 _ (by rw [hdl] at hj; omega)).1) (fun j hj => by rw [hWf]; exact (own_cells hown2.1 _ (by rw [hdl] at hj; omega)).2) (fun v hv => ptrs_one gs v (List.mem_of_mem_drop hv))
  have HEND : Hid (∀ W : World, W.heap = (W2.setCells w.heap.size (p + 1) ((ptrs gs).drop p)).heap → W.os = W2.os → W.tape = W2.tape → W.output = W2.output → Inserted w base (gs.insertIdx p g) (.returned (.slice (some ⟨w.heap.size, 0, none⟩) (n + 1) G)) W) := fun W hW ho htp hou => by
    have h2 := own_setCells ((ptrs gs).drop p) (p + 1) W2 _ hown2.1
    have e1 : setMany (setMany ((ptrs gs).take p ++ List.replicate (n + 1 - p) (.pointer none)) p [ptr g]) (p + 1) ((ptrs gs).drop p) = ptrs (gs.insertIdx p g) := by
      rw [setMany_eq _ _ (p + 1) (by rw [setMany_length, hdl, List.length_append, List.length_take, List.length_replicate, hpl]; omega), setMany_eq [ptr g] _ p (by rw [List.length_append, List.length_take, List.length_replicate, hpl]; simp; omega)]
      have := list_grow (ptrs gs) (List.replicate (n + 1 - p) (.pointer none)) (ptr g) p n hpl (by omega) List.length_replicate
      simp only [List.length_singleton]
      rw [this]
      exact insert_ptrs gs p g (by omega)
    have hlen : (gs.insertIdx p g).length = n + 1 := by rw [List.length_insertIdx_of_le_length (by omega), HN.out]
    rw [e1] at h2
    have h3 := World.grownBy.trans (World.grownBy.trans hgr1 hown2.2) h2.2
    have h4 := World.grownBy.trans hgr1 hown2.2
    have hgr : w.grownBy W (some w.heap.size) := ⟨ho.trans h4.os, htp.trans h4.tape, hou.trans h4.output, by rw [hW]; exact h3.size, fun i hi hne => by rw [hW]; exact h3.block i hi hne⟩
    refine ⟨some ⟨w.heap.size, 0, none⟩, G, by rw [hlen], ?_, (Below.refl base w).grown hgr hbase (fun k hk => by injection hk with hk; omega), ?_⟩
    · unfold OwnPtrs
      rw [hlen]
      refine ⟨h2.1.1, ?_⟩
      rcases h2.1.2 with h0 | ⟨g', c', cu, hv, hb, hh, hr⟩
      · exact .inl h0
      · exact .inr ⟨g', c', cu, hv, hb, by rw [hW]; exact hh, hr⟩
    · exact fun g' r s x y hn' => Blk.grown hn' hgr (fun e => by injection e with e; have := Blk.lt hn'; omega)
  have hz1 : ((1 : Int) == 0) = false := by decide
  have hm := hle.2
  have hle1 := hle.1
  have hGm' := hGm
  unfold maxLen at hm hGm'
  rw [HN.out] at hp hroom hn hle1 ⊢
  have hz2' : ((p : Int) == (n : Int)) = false := by rw [beq_eq_false_iff_ne]; omega
  have hr1 : (c : Int) < (n : Int) + 1 := by omega
  have hw1 : IntKind.i64.wrap ((p : Int) + 1) = (p : Int) + 1 := IntWalk.i64_in _ (by omega)
  have hb1 : (0 : Int) ≤ (p : Int) + 1 := by omega
  have htn : ((p : Int) + 1).toNat = p + 1 := by omega
  have hGi : ¬ (G = p) := by omega
  have hGim : ¬ (G = p + 1) := by omega
  have hci : ¬ (c = p) := by omega
  have hb3 : (p : Int) ≤ (n : Int) := by omega
  have hb5 : (p : Int) ≤ (n : Int) + 1 := by omega
  have hb6 : (p : Int) + 1 ≤ (n : Int) + 1 := by omega
  have hb8 : (p : Int) ≤ (c : Int) := by omega
  rw [HW1.out] at hrz
  clear hO hV hown0 hown1 hown2 hvW hle hdl hpl hgn hold hRs hRt hgr1 hO1 hik
  have hw2 := HW2.out
  subst hw2
  clear HW2
  go_enter Tryd.func41, Tryd.ntmps41
  go_wp2_with (first
    | (at_builtin; refine Lib.wpList_append_run _ rfl _ _ _ _ rfl _ _ rfl rfl _ _ (hrz _) ?_)
    | (at_builtin; refine wpList_copy_runI _ rfl _ _ 41 41 rfl _ _ rfl rfl (hcpA _ (fun _ => rfl) (fun _ => rfl) _ _) ?_))
  go_region_law (refine step_copy_runI rfl _ _ 41 41 rfl (.slice (some ⟨w.heap.size, p + 1, none⟩) (n - p) (G - (p + 1))) (.slice (some ⟨b, p, none⟩) (n - p) (c - p)) (by simp [Act.eval, Act.put]) (by simp [Act.eval, Act.put]) (hcpB (W1.setCells w.heap.size p [ptr g]).drew (fun _ => rfl) (fun _ => rfl) 3 (G - (p + 1)) (c - p)) ?_)
  go_wp2
  go_ret
  have hrest := setCells_rest w.heap.size ((ptrs gs).drop p) (p + 1) (W1.setCells w.heap.size p [ptr g]).drew
  exact HEND.out _ (setCells_drew _ _ _ _) hrest.1 hrest.2.1 hrest.2.2

theorem ins_any (gs : List Nat) (p g base : Nat) (A : Option Addr) (c vb : Nat) (w : World) (hO : OwnPtrs w base A c gs) (hV : Blk w vb 45 #[ptr g]) (hp : p ≤ gs.length) (hvb : ∀ b, A = some ⟨b, 0, none⟩ → vb ≠ b) (hn : gs.length ≤ 100) (hbase : base ≤ w.heap.size) :
    Calls Tryd.prog 41 #[.slice A gs.length c, .int .i64 (p : Int), .slice (some ⟨vb, 0, none⟩) 1 1] w (Inserted w base (gs.insertIdx p g)) := by
  by_cases he : p = gs.length
  · subst he
    have : gs.insertIdx gs.length g = gs ++ [g] := by
      rw [insert_split g gs gs.length (Nat.le_refl _), List.take_of_length_le (Nat.le_refl _), List.drop_eq_nil_of_le (Nat.le_refl _)]
    rw [this]
    exact ins_end gs g base A c vb w hO hV hn hbase
  · obtain ⟨b, hA⟩ : ∃ b, A = some ⟨b, 0, none⟩ := by
      rcases hO.2 with ⟨hv, h0⟩ | ⟨g', cap, cur, hv, hb, hh, _⟩
      · omega
      · injection hv with hA _ _
        exact ⟨g', hA⟩
    subst hA
    by_cases hr : gs.length + 1 ≤ c
    · exact ins_shift gs p g base b c vb w hO hV (by omega) hr (hvb b rfl) hn hbase
    · exact ins_grow gs p g base b c vb w hO hV (by omega) (by omega) hn hbase

end Go.Proofs.YtlkgadgjcjpdcaaDoor
