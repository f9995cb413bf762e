/- Contract of mergeTrees: the peaks that trees of known sizes merge into. Conditions: the sizes add up to at most 16; the roots are digests. Contracts of the library's Grow at a nil slice and Concat of two slices, at integers: their numbers one behind the other in memory of the call's own. Conditions: the lengths are at most 1000. Contract of TreeGrowthCheck: it reports whether a proof of growth is  -/
import Derived.Test.YtkmebilhbjcfpaaGreatBaseF
import Derived.Test.YtkmebilhbjcfpaaGreatBaseA
import Derived.Test.YtkmebilhbjcfpaaGreatBaseB
namespace Go.Proofs.YtkmebilhbjcfpaaGreat
open Go.RowKit
set_option linter.unusedVariables false

def totS : List (Nat × Int) → Nat
  | [] => 0
  | p :: l => p.1 + totS l
def DigsP (l : List (Nat × Int)) : Prop := ∀ p ∈ l, 0 ≤ p.2 ∧ p.2 < 991
theorem pushG_tot : ∀ (st : List (Nat × Int)) (s : Nat) (t : Int), totS (pushG pairZ st s t) = totS st + s := by
  intro st
  induction st with
  | nil => intro s t; show s + 0 = 0 + s; omega
  | cons p st ih =>
    intro s t
    obtain ⟨s', t'⟩ := p
    show totS (if s' = s then pushG pairZ st (s' + s) (pairZ t' t) else (s, t) :: (s', t') :: st) = s' + totS st + s
    by_cases c : s' = s
    · rw [if_pos c, ih]; omega
    · rw [if_neg c]; show s + (s' + totS st) = _; omega
theorem pushG_digs : ∀ (st : List (Nat × Int)) (s : Nat) (t : Int), DigsP st → (0 ≤ t ∧ t < 991) → DigsP (pushG pairZ st s t) := by
  intro st
  induction st with
  | nil => intro s t _ h p hp; have : p = (s, t) := by simpa [pushG] using hp
           subst this; exact h
  | cons p st ih =>
    intro s t hd h
    obtain ⟨s', t'⟩ := p
    show DigsP (if s' = s then pushG pairZ st (s' + s) (pairZ t' t) else (s, t) :: (s', t') :: st)
    by_cases c : s' = s
    · rw [if_pos c]; exact ih _ _ (fun p hp => hd p (List.mem_cons_of_mem _ hp)) (pairZ_bd _ _)
    · rw [if_neg c]
      intro p hp
      rcases List.mem_cons.1 hp with e | e
      · subst e; exact h
      · exact hd p e
def sliceLen : Value → Nat
  | .slice _ n _ => n
  | _ => 0

structure PushAt (w : World) (tgt : List (Nat × Int)) (A : Option Addr) (c : Nat) (gs : List Nat) (st : List (Nat × Int)) (g : Nat) (r : Int) (s : Nat) (w' : World) : Prop where
  own : OwnPtrs w' w.heap.size A c gs
  below : Below w.heap.size w w'
  nodes : NodesAt w' gs st.reverse
  node : ∃ x y, Node w' g r s x y
  push : pushG pairZ st s r = tgt
  dig : 0 ≤ r ∧ r < 991
  digs : DigsP st
  tot : totS st + s ≤ 16
  short : st.length ≤ 40
theorem PushAt.drewN {w : World} {tgt : List (Nat × Int)} {A : Option Addr} {c : Nat} {gs : List Nat} {st : List (Nat × Int)} {g : Nat} {r : Int} {s : Nat} {w' : World} (h : PushAt w tgt A c gs st g r s w') (n : Nat) : PushAt w tgt A c gs st g r s (w'.drewN n) :=
  ⟨h.own, below_drewN h.below n, h.nodes.kept (Kept.drewN _ n), h.node, h.push, h.dig, h.digs, h.tot, h.short⟩

structure MergeAt (w : World) (ts : List (Nat × Int)) (A : Option Addr) (c : Nat) (gs : List Nat) (st : List (Nat × Int)) (k : Nat) (w' : World) : Prop where
  own : OwnPtrs w' w.heap.size A c gs
  below : Below w.heap.size w w'
  nodes : NodesAt w' gs st.reverse
  rest : mergeGo pairZ st (ts.drop k) = mergeGo pairZ [] ts
  digs : DigsP st
  tot : totS st + totS (ts.drop k) ≤ 16
  pos : st.length ≤ k

theorem pushG_length : ∀ (st : List (Nat × Int)) (s : Nat) (t : Int), (pushG pairZ st s t).length ≤ st.length + 1 := by
  intro st
  induction st with
  | nil => intro s t; exact Nat.le_refl _
  | cons p st ih =>
    intro s t
    obtain ⟨s', t'⟩ := p
    show (if s' = s then pushG pairZ st (s' + s) (pairZ t' t) else (s, t) :: (s', t') :: st).length ≤ _
    by_cases c : s' = s
    · rw [if_pos c]; have := ih (s' + s) (pairZ t' t); simp; omega
    · rw [if_neg c]; simp
theorem own_short {w : World} {gs : List Nat} {st : List (Nat × Int)} (h : NodesAt w gs st.reverse) : gs.length = st.length := by rw [h.same, List.length_reverse]



end Go.Proofs.YtkmebilhbjcfpaaGreat

namespace Go.Proofs.YtkmebilhbjcfpaaGreat
open Go.RowKit
set_option linter.unusedVariables false

theorem OwnInts.cut {w : World} {base g c : Nat} {zs : List Int} (h : OwnInts w base (some ⟨g, 0, none⟩) c zs) (k : Nat) (hk : k ≤ zs.length) : OwnInts w base (some ⟨g, 0, none⟩) c (zs.take k) := by
  have hl : (zs.take k).length = k := by rw [List.length_take]; omega
  rcases h.2 with ⟨hv, _⟩ | ⟨g', c', cur, hv, hb, hg, hn, hm, hs, ht⟩
  · injection hv with hA _ _; cases hA
  · injection hv with hA _ hc
    injection hA with hA
    injection hA with hA _ _
    subst hA hc
    refine ⟨by rw [vals_length]; omega, .inr ⟨g, c, cur, rfl, hb, hg, by omega, hm, hs, ?_⟩⟩
    rw [hl, Nat.mul_one]
    rw [Nat.mul_one] at ht
    have e : vals (zs.take k) = (vals zs).take k := by unfold vals; rw [List.map_take]
    rw [e, ← ht, List.take_take, Nat.min_eq_left hk]





end Go.Proofs.YtkmebilhbjcfpaaGreat

namespace Go.Proofs.YtkmebilhbjcfpaaGreat
open Go.RowKit
set_option linter.unusedVariables false

def growB (m n : Nat) (old digest : Int) (proof : List Int) : Bool :=
  decide (proof.length = (growSizes m n).length) && (decide (foldZ m (proof.take (sizesOf 0 m).length) = old) && decide (foldZ n (mergeZ (growSizes m n) proof) = digest))
def growOkB (m old n digest : Int) (proof : List Int) : Bool :=
  decide (0 ≤ n ∧ n ≤ 16 ∧ 0 ≤ m ∧ m ≤ n) && (digB proof && growB m.toNat n.toNat old digest proof)
theorem growOkB_yes {m n : Nat} {old digest : Int} {proof : List Int} (hn : n ≤ 16) (hm : m ≤ n) (hd : digB proof = true) : growOkB m old n digest proof = growB m n old digest proof := by
  unfold growOkB
  rw [hd, decide_eq_true (show (0 : Int) ≤ n ∧ (n : Int) ≤ 16 ∧ (0 : Int) ≤ m ∧ (m : Int) ≤ n from ⟨by omega, by omega, by omega, by omega⟩)]
  rfl
theorem growOkB_no {m n : Int} {old digest : Int} {proof : List Int} (h : ¬ (0 ≤ n ∧ n ≤ 16 ∧ 0 ≤ m ∧ m ≤ n)) : growOkB m old n digest proof = false := by
  unfold growOkB; rw [decide_eq_false h]; rfl
theorem growOkB_nod {m n : Int} {old digest : Int} {proof : List Int} (h : digB proof = false) : growOkB m old n digest proof = false := by
  unfold growOkB; rw [h]; simp
def sumN : List Nat → Nat
  | [] => 0
  | a :: l => a + sumN l
theorem look_sum : allMN (fun m n => decide (sumN (growSizes m n) = n)) = true := by decide +kernel
theorem tot_zip : ∀ (ss : List Nat) (rs : List Int), rs.length = ss.length → totS (ss.zip rs) = sumN ss := by
  intro ss
  induction ss with
  | nil => intro rs h; rfl
  | cons s ss ih =>
    intro rs h
    cases rs with
    | nil => simp at h
    | cons r rs => show s + totS (ss.zip rs) = s + sumN ss; rw [ih rs (by simpa using h)]
theorem map_zip : ∀ (ss : List Nat) (rs : List Int), rs.length = ss.length → (ss.zip rs).map (·.2) = rs := by
  intro ss
  induction ss with
  | nil => intro rs h; have : rs = [] := List.eq_nil_of_length_eq_zero (by simpa using h)
           subst this; rfl
  | cons s ss ih =>
    intro rs h
    cases rs with
    | nil => simp at h
    | cons r rs => show r :: (ss.zip rs).map (·.2) = r :: rs; rw [ih rs (by simpa using h)]
theorem digs_zip (ss : List Nat) (rs : List Int) (h : Digs rs) : DigsP (ss.zip rs) := fun p hp => h p.2 (List.of_mem_zip (a := p.1) (b := p.2) hp).2
theorem mergeGo_digs : ∀ (ts st : List (Nat × Int)), DigsP st → DigsP ts → DigsP (mergeGo pairZ st ts) := by
  intro ts
  induction ts with
  | nil => intro st hs _; cases st <;> exact hs
  | cons p ts ih =>
    intro st hs ht
    obtain ⟨s, t⟩ := p
    show DigsP (mergeGo pairZ (pushG pairZ st s t) ts)
    exact ih _ (pushG_digs st s t hs (ht (s, t) (by simp))) (fun q hq => ht q (List.mem_cons_of_mem _ hq))
theorem mergeGo_length : ∀ (ts st : List (Nat × Int)), (mergeGo pairZ st ts).length ≤ st.length + ts.length := by
  intro ts
  induction ts with
  | nil => intro st; cases st <;> simp [mergeGo]
  | cons p ts ih =>
    intro st
    obtain ⟨s, t⟩ := p
    show (mergeGo pairZ (pushG pairZ st s t) ts).length ≤ _
    have h1 := ih (pushG pairZ st s t)
    have h2 := pushG_length st s t
    simp
    omega
theorem natsZ_append (a b : List Nat) : natsZ (a ++ b) = natsZ a ++ natsZ b := List.map_append
theorem mergeZ_digs (ss : List Nat) (rs : List Int) (h : Digs rs) : Digs (mergeZ ss rs) := by
  intro x hx
  unfold mergeZ mergeG at hx
  rw [List.mem_reverse] at hx
  obtain ⟨p, hp, rfl⟩ := List.mem_map.1 hx
  exact mergeGo_digs _ _ (fun q hq => by cases hq) (digs_zip ss rs h) p hp









theorem growthZ_digs (zs : List Int) (k : Nat) (h16 : zs.length ≤ 16) (hd : Digs zs) : Digs (growthZ zs k) := by
  intro x hx
  unfold growthZ growthG at hx
  rcases List.mem_append.1 hx with e | e
  · exact coverZ_digs (zs.take k) 0 (hd.take k) (by rw [List.length_take]; omega) x e
  · exact coverZ_digs zs k hd h16 x e
/-- Growth can be proved. -/
theorem growth_accept (zs : List Int) (k : Nat) (h16 : zs.length ≤ 16) (hk : k ≤ zs.length) (hd : Digs zs) : growOkB (k : Int) (digestZ (zs.take k)) (zs.length : Int) (digestZ zs) (growthZ zs k) = true := by
  rw [growOkB_yes h16 hk (digB_of (growthZ_digs zs k h16 hd))]
  unfold growB
  have hlt : (zs.take k).length = k := by rw [List.length_take]; omega
  rw [decide_eq_true (growth_length zs k h16 hk), growth_first zs k hk, growth_merge zs k h16 hk]
  unfold digestZ
  rw [hlt]
  simp
/-- A proof of growth is for two digests. -/
theorem growOkB_true {m old n digest : Int} {proof : List Int} (h : growOkB m old n digest proof = true) : ∃ j k : Nat, m = j ∧ n = k ∧ k ≤ 16 ∧ j ≤ k ∧ Digs proof ∧ proof.length = (growSizes j k).length ∧ foldZ j (proof.take (sizesOf 0 j).length) = old ∧ foldZ k (mergeZ (growSizes j k) proof) = digest := by
  unfold growOkB growB at h
  simp only [Bool.and_eq_true, decide_eq_true_eq] at h
  obtain ⟨⟨h1, h2, h3, h4⟩, h5, h6, h7, h8⟩ := h
  obtain ⟨k, rfl⟩ := Int.eq_ofNat_of_zero_le h1
  obtain ⟨j, rfl⟩ := Int.eq_ofNat_of_zero_le h3
  rw [Int.toNat_natCast] at h6 h7 h8
  rw [Int.toNat_natCast] at h6 h8
  exact ⟨j, k, rfl, rfl, by omega, by omega, digB_yes h5, h6, h7, h8⟩
theorem growOkB_of {j k : Nat} {old digest : Int} {proof : List Int} (hk : k ≤ 16) (hj : j ≤ k) (hd : Digs proof) (h : growOkB (j : Int) old (k : Int) digest proof = true) : proof.length = (growSizes j k).length ∧ foldZ j (proof.take (sizesOf 0 j).length) = old ∧ foldZ k (mergeZ (growSizes j k) proof) = digest := by
  rw [growOkB_yes hk hj (digB_of hd)] at h
  unfold growB at h
  simp only [Bool.and_eq_true, decide_eq_true_eq] at h
  exact h

end Go.Proofs.YtkmebilhbjcfpaaGreat

namespace Go.Proofs.YtkmebilhbjcfpaaGreat
open Go.RowKit
set_option linter.unusedVariables false

def growthOr (zs : List Int) (m : Int) : List Int := if leavesB zs = true ∧ 0 ≤ m ∧ m ≤ zs.length then growthZ zs m.toNat else []
theorem growthOr_yes {zs : List Int} {m : Nat} (h : leavesB zs = true) (hm : m ≤ zs.length) : growthOr zs (m : Int) = growthZ zs m := by
  unfold growthOr
  rw [if_pos ⟨h, by omega, by omega⟩, Int.toNat_natCast]
theorem growthOr_no {zs : List Int} {m : Int} (h : ¬ (leavesB zs = true ∧ 0 ≤ m ∧ m ≤ zs.length)) : growthOr zs m = [] := by unfold growthOr; rw [if_neg h]
theorem cover_short (zs : List Int) (s : Nat) : (coverZ zs s).length ≤ 17 := by rw [coverG_length, sizesOf_length]; exact places_length_le s zs.length







theorem RootsAt.append {w : World} {gs hs : List Nat} {rs ss : List Int} (h : RootsAt w gs rs) (k : RootsAt w hs ss) : RootsAt w (gs ++ hs) (rs ++ ss) := by
  refine ⟨by rw [List.length_append, List.length_append, h.same, k.same], fun j hj => ?_⟩
  rw [List.length_append] at hj
  unfold gth nth
  rw [List.getD_eq_getElem?_getD, List.getD_eq_getElem?_getD]
  by_cases c : j < gs.length
  · rw [List.getElem?_append_left c, List.getElem?_append_left (by rw [← h.same]; exact c)]
    have := h.node j c
    unfold gth nth at this
    rw [List.getD_eq_getElem?_getD, List.getD_eq_getElem?_getD] at this
    exact this
  · rw [List.getElem?_append_right (by omega), List.getElem?_append_right (by rw [← h.same]; omega), ← h.same]
    have := k.node (j - gs.length) (by omega)
    unfold gth nth at this
    rw [List.getD_eq_getElem?_getD, List.getD_eq_getElem?_getD] at this
    exact this
theorem OwnPtrs.none0 {w : World} {base : Nat} {A : Option Addr} {cap : Nat} {zs : List Nat} (h : OwnPtrs w base A cap zs) : A = none → cap = 0 := by
  intro hA
  subst hA
  rcases h.2 with ⟨hv, _⟩ | ⟨g, c, cur, hv, _⟩
  · injection hv
  · injection hv with hA _ _; cases hA







end Go.Proofs.YtkmebilhbjcfpaaGreat
