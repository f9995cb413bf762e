/- Contracts of knownTrees and mergeTrees: trees of known roots, and the peaks that they merge into. Conditions: the sizes are positive and add up to at most 16; the roots are digests. -/
import Derived.Test.YtlpdoieiiadhhaaDoorBaseB
namespace Go.Proofs.YtlpdoieiiadhhaaDoor
open Go.RowKit
set_option linter.unusedVariables false

theorem OwnPtrs.cut {w : World} {base g c : Nat} {zs : List Nat} (h : OwnPtrs w base (some ⟨g, 0, none⟩) c zs) (k : Nat) (hk : k ≤ zs.length) : OwnPtrs w base (some ⟨g, 0, none⟩) c (zs.take k) := by
  have hl : (zs.take k).length = k := by rw [List.length_take]; omega
  rcases h.2 with ⟨hv, _⟩ | ⟨g', c', cur, hv, hb, hg, hn, hm, hs, ht⟩
  · injection hv with hA _ _; cases hA
  · injection hv with hA _ hc
    injection hA with hA
    injection hA with hA _ _
    subst hA hc
    refine ⟨by rw [ptrs_length]; omega, .inr ⟨g, c, cur, rfl, hb, hg, by omega, hm, hs, ?_⟩⟩
    rw [hl, Nat.mul_one]
    rw [Nat.mul_one] at ht
    have e : ptrs (zs.take k) = (ptrs zs).take k := by unfold ptrs; rw [List.map_take]
    rw [e, ← ht, List.take_take, Nat.min_eq_left hk]

/-- Nodes with roots and sizes. -/
structure NodesAt (w : World) (gs : List Nat) (ts : List (Nat × Int)) : Prop where
  same : gs.length = ts.length
  node : ∀ k, k < gs.length → ∃ x y, Node w (gth gs k) (ts.getD k (0, 0)).2 ((ts.getD k (0, 0)).1 : Nat) x y
theorem NodesAt.kept {w w' : World} {gs : List Nat} {ts : List (Nat × Int)} (h : NodesAt w gs ts) (hk : Kept w w') : NodesAt w' gs ts :=
  ⟨h.same, fun k hk' => by obtain ⟨x, y, n⟩ := h.node k hk'; exact ⟨x, y, hk _ _ _ _ _ n⟩⟩
theorem NodesAt.nil (w : World) : NodesAt w [] [] := ⟨rfl, fun k hk => absurd hk (by simp)⟩
theorem getD_snoc {α : Type} (l : List α) (a z : α) (j : Nat) : (l ++ [a]).getD j z = if j < l.length then l.getD j z else if j = l.length then a else z := by
  rw [List.getD_eq_getElem?_getD, List.getD_eq_getElem?_getD]
  by_cases h : j < l.length
  · rw [if_pos h, List.getElem?_append_left h]
  · rw [if_neg h, List.getElem?_append_right (by omega)]
    by_cases e : j = l.length
    · rw [if_pos e, e, Nat.sub_self]; rfl
    · rw [if_neg e, List.getElem?_eq_none (by simp; omega)]; rfl
theorem NodesAt.snoc {w : World} {gs : List Nat} {ts : List (Nat × Int)} (h : NodesAt w gs ts) {g : Nat} {r : Int} {s : Nat} {x y : Option Addr} (hn : Node w g r s x y) : NodesAt w (gs ++ [g]) (ts ++ [(s, r)]) := by
  refine ⟨by rw [List.length_append, List.length_append, h.same]; rfl, fun k hk => ?_⟩
  rw [gth_snoc, getD_snoc, ← h.same]
  by_cases c : k < gs.length
  · rw [if_pos c, if_pos c]; exact h.node k c
  · have e : k = gs.length := by rw [List.length_append] at hk; simp at hk; omega
    rw [if_neg c, if_neg c, if_pos e, if_pos e]
    exact ⟨x, y, hn⟩
theorem NodesAt.cut {w : World} {gs : List Nat} {ts : List (Nat × Int)} (h : NodesAt w gs ts) (k : Nat) : NodesAt w (gs.take k) (ts.take k) := by
  refine ⟨by rw [List.length_take, List.length_take, h.same], fun j hj => ?_⟩
  rw [List.length_take] at hj
  unfold gth
  rw [List.getD_eq_getElem?_getD, List.getD_eq_getElem?_getD, List.getElem?_take_of_lt (by omega), List.getElem?_take_of_lt (by omega)]
  have := h.node j (by omega)
  unfold gth at this
  rw [List.getD_eq_getElem?_getD, List.getD_eq_getElem?_getD] at this
  exact this
theorem NodesAt.roots {w : World} {gs : List Nat} {ts : List (Nat × Int)} (h : NodesAt w gs ts) : RootsAt w gs (ts.map (·.2)) := by
  refine ⟨by rw [h.same, List.length_map], fun k hk => ?_⟩
  obtain ⟨x, y, n⟩ := h.node k hk
  have e : nth (ts.map (·.2)) k = (ts.getD k (0, 0)).2 := by
    unfold nth
    rw [List.getD_eq_getElem?_getD, List.getD_eq_getElem?_getD, List.getElem?_map]
    cases ts[k]? <;> rfl
  rw [e]
  exact ⟨_, x, y, n⟩

theorem zip_take_snoc (ss : List Nat) (rs : List Int) (k : Nat) (h1 : k < ss.length) (h2 : k < rs.length) : (ss.zip rs).take (k + 1) = (ss.zip rs).take k ++ [(ss.getD k 0, nth rs k)] := by
  have hl : k < (ss.zip rs).length := by rw [List.length_zip]; omega
  rw [List.take_succ_eq_append_getElem hl, List.getElem_zip]
  unfold nth
  rw [List.getD_eq_getElem?_getD, List.getD_eq_getElem?_getD, List.getElem?_eq_getElem h1, List.getElem?_eq_getElem h2]
  rfl

def Knowned (w : World) (r s : Int) (e : Ending) (w' : World) : Prop :=
  ∃ g, e = .returned (.pointer (some ⟨g, 0, none⟩)) ∧ Node w' g r s none none ∧ Below w.heap.size w w'
theorem known_ret (r s : Int) (w : World) : Calls Tryd.prog 103 #[.int .i64 r, .int .i64 s] w (Knowned w r s) :=
  (known_any r s w).mono fun e w' ⟨he, hw⟩ => ⟨w.heap.size, he, by rw [hw]; exact Blk.new w _ _, by rw [hw]; exact (Below.refl _ _).alloc (Nat.le_refl _) _⟩

structure KnownLoop (w : World) (ss : List Nat) (rs : List Int) (A : Option Addr) (c : Nat) (gs : List Nat) (k : Nat) (w' : World) : Prop where
  own : OwnPtrs w' w.heap.size A c gs
  below : Below w.heap.size w w'
  len : gs.length = k
  nodes : NodesAt w' gs ((ss.zip rs).take k)

def RetNodes (w : World) (ts : List (Nat × Int)) (e : Ending) (w' : World) : Prop :=
  ∃ A cap gs, e = .returned (.slice A gs.length cap) ∧ OwnPtrs w' w.heap.size A cap gs ∧ NodesAt w' gs ts ∧ Below w.heap.size w w'

set_option maxHeartbeats 2000000 in
theorem knowns_any (A : Option Addr) (ca : Nat) (ss : List Nat) (B : Option Addr) (cb : Nat) (rs : List Int) (w : World) (hS : IntsAt w w.heap.size A (natsZ ss)) (hR : IntsAt w w.heap.size B rs) (hl : rs.length = ss.length) (hm : ss.length ≤ 100) :
    Calls Tryd.prog 67 #[.slice A ss.length ca, .slice B rs.length cb] w (RetNodes w (ss.zip rs)) := by
  have HS := Lib.hid hS
  have HR := Lib.hid hR
  obtain ⟨n, HN⟩ : ∃ n, Hid (ss.length = n) := ⟨_, rfl⟩
  have HL : Hid (rs.length = n) := by show _ = _; rw [hl]; exact HN.out
  rw [HL.out, HN.out]
  rw [HN.out] at hm
  clear hS hR hl
  go_enter Tryd.func67, Tryd.ntmps67
  go_wp2
  go_loopw [5, 10] (fun x ix w' => ∃ (A' : Option Addr) (c : Nat) (gs : List Nat) (k : Nat), k ≤ n ∧ x = .slice A' gs.length c ∧ ix = .int .i64 k ∧ KnownLoop w ss rs A' c gs k w') (fun _ ix _ => n - (intOf ix).toNat)
  case atStart =>
    refine ⟨none, 0, [], 0, by omega, rfl, rfl, ?_⟩
    exact ⟨World.ownsRow_nil _ _ _ _, Below.refl _ _, rfl, NodesAt.nil _⟩
  case round =>
    obtain ⟨A', c, gs, k, hk, rfl, rfl, hC⟩ := hrel
    have HC := Lib.hid hC
    clear hC
    by_cases hlt : k < n
    · have hks : k < ss.length := by rw [HN.out]; exact hlt
      have hkr : k < rs.length := by rw [HL.out]; exact hlt
      obtain ⟨b1, o1, rfl, hb1, hc1⟩ := (HS.out.below HC.out.below (Nat.le_refl _)) (by rw [natsZ_length]; omega)
      obtain ⟨b2, o2, rfl, hb2, hc2⟩ := (HR.out.below HC.out.below (Nat.le_refl _)) (by omega)
      have hck1 := hc1 k (by rw [natsZ_length]; exact hks)
      have hck2 := hc2 k hkr
      rw [natsZ_nth] at hck1
      obtain ⟨s, HSS⟩ : ∃ s, Hid (ss.getD k 0 = s) := ⟨_, rfl⟩
      rw [HSS.out] at hck1
      have HZS : Hid ((ss.zip rs).take (k + 1) = (ss.zip rs).take k ++ [(s, nth rs k)]) := by show _ = _; rw [zip_take_snoc ss rs k hks hkr, HSS.out]
      have hb0 : w.heap.size ≤ wr.heap.size := HC.out.below.size
      have hgl : gs.length ≤ 100 := by have := HC.out.len; omega
      clear hc1 hc2 hks hkr
      go_wp2_with fail
      refine (known_ret _ _ _).mono ?_
      rintro e w2 ⟨g, rfl, hnd, hbw⟩
      have HND := Lib.hid hnd
      have HBW := Lib.hid hbw
      clear hnd hbw
      have hb2' : wr.heap.size ≤ w2.heap.size := HBW.out.size
      go_wp2_with (at_builtin; refine wpList_app_ptrs rfl (.tmp 15) (.tmp 22) rfl _ w.heap.size A' c gs rfl _ _ [g] rfl ((HC.out.own.below HBW.out).alloc _) (one_newP _ _) (by simp; omega) (by simp; omega) (by simp) ?_; intro v w3 hA; have HKA := Lib.hid (Kept.appended (n := 0) ((HC.out.own.below HBW.out).alloc _) hA); obtain ⟨⟨A3, c3, rfl, hown3⟩, hg3, hb3⟩ := hA; have HO3 := Lib.hid hown3; have HB3 := Lib.hid hb3; clear hown3 hg3 hb3)
      go_wp2
      go_roundw
      case rel =>
        have hC := HC.out
        refine ⟨A3, c3, gs ++ [g], k + 1, by omega, by simp, by go_num, ?_⟩
        refine ⟨HO3.out, ((hC.below.trans (HBW.out.mono hb0)).alloc (by omega) _).trans HB3.out, by rw [List.length_append, hC.len]; rfl, ?_⟩
        rw [HZS.out]
        have hk2 : Kept w2 w3 := (Kept.alloc w2 _).trans HKA.out
        have hk1 : Kept wr w3 := (Kept.of_below HBW.out).trans hk2
        refine (hC.nodes.kept hk1).snoc (x := none) (y := none) ?_
        exact hk2 _ _ _ _ _ HND.out
      case measure => simp [intOf]; omega
    · have hkn : k = n := by omega
      subst hkn
      go_wp2
      go_ret
      have hC := HC.out
      have hnd := hC.nodes
      rw [List.take_of_length_le (by rw [List.length_zip, HN.out, HL.out]; omega)] at hnd
      exact ⟨A', c, gs, rfl, hC.own, hnd, hC.below⟩

end Go.Proofs.YtlpdoieiiadhhaaDoor
