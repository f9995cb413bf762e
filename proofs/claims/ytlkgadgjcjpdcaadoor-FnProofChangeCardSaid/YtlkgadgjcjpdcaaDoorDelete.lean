/- Contract of slices.Delete at slices of the call's own. Conditions: the bounds are in order. -/
import Derived.Test.YtlkgadgjcjpdcaaDoorPtrs
import Derived.Deep.RegionLaw
import Derived.Lib.SliceRun
namespace Go.Proofs.YtlkgadgjcjpdcaaDoor
open Go.RowKit
set_option linter.unusedVariables false

theorem cut_eq {α : Type} (l : List α) (i j : Nat) (hij : i ≤ j) (hj : j ≤ l.length) : ((l.take i ++ l.drop j) ++ (l.drop (l.length - (j - i)))).take (l.length - (j - i)) = l.take i ++ l.drop j := by
  have h : (l.take i ++ l.drop j).length = l.length - (j - i) := by rw [List.length_append, List.length_take, List.length_drop]; omega
  rw [← h, List.take_left]

def setMany : List Value → Nat → List Value → List Value
  | xs, _, [] => xs
  | xs, o, v :: r => setMany (xs.set o v) (o + 1) r
theorem setMany_length : ∀ (vs xs : List Value) (o : Nat), (setMany xs o vs).length = xs.length := by
  intro vs
  induction vs with
  | nil => intro xs o; rfl
  | cons v r ih => intro xs o; show (setMany (xs.set o v) (o + 1) r).length = _; rw [ih, List.length_set]
theorem setMany_eq : ∀ (vs xs : List Value) (o : Nat), o + vs.length ≤ xs.length → setMany xs o vs = xs.take o ++ vs ++ xs.drop (o + vs.length) := by
  intro vs
  induction vs with
  | nil => intro xs o h; simp [setMany]
  | cons v r ih =>
    intro xs o h
    simp only [List.length_cons] at h
    show setMany (xs.set o v) (o + 1) r = _
    rw [ih (xs.set o v) (o + 1) (by rw [List.length_set]; omega), List.take_succ_eq_append_getElem (by rw [List.length_set]; omega), List.getElem_set_self, List.take_set_of_le (Nat.le_refl _), List.drop_set_of_lt (by omega)]
    simp only [List.length_cons, List.append_assoc, List.cons_append, List.nil_append]
    rw [show o + 1 + r.length = o + (r.length + 1) by omega]
theorem own_setCells {base g n cap : Nat} {e : TypeId} : ∀ (vs : List Value) (o : Nat) (w : World) (xs : List Value), w.ownsRow base e 1 (.slice (some ⟨g, 0, none⟩) n cap) n xs →
    (w.setCells g o vs).ownsRow base e 1 (.slice (some ⟨g, 0, none⟩) n cap) n (setMany xs o vs) ∧ w.grownBy (w.setCells g o vs) (some g) := by
  intro vs
  induction vs with
  | nil => intro o w xs h; exact ⟨h, World.grownBy.refl _ _⟩
  | cons v r ih =>
    intro o w xs h
    have h1 := World.ownsRow.stored h o v
    have h2 := ih (o + 1) _ _ h1.1
    exact ⟨h2.1, World.grownBy.trans h1.2 h2.2⟩
/-- Fewer elements of a row. -/
theorem own_fewer {w : World} {base g n cap : Nat} {e : TypeId} {xs : List Value} (h : w.ownsRow base e 1 (.slice (some ⟨g, 0, none⟩) n cap) n xs) (m : Nat) (hm : m ≤ n) : w.ownsRow base e 1 (.slice (some ⟨g, 0, none⟩) m cap) m (xs.take m) := by
  refine ⟨by rw [List.length_take, h.1]; omega, ?_⟩
  rcases h.2 with ⟨hv, _⟩ | ⟨g', c, cur, hv, hb, hh, h1, h2, h3, h4⟩
  · injection hv with hA _ _; cases hA
  · injection hv with hA _ hc
    injection hA with hA
    injection hA with hA _ _
    subst hA hc
    refine .inr ⟨g, cap, cur, rfl, hb, hh, by omega, h2, h3, ?_⟩
    rw [← h4, List.take_take, Nat.mul_one, Nat.mul_one, Nat.min_eq_left hm]
theorem own_cells {w : World} {base g n cap : Nat} {e : TypeId} {xs : List Value} (h : w.ownsRow base e 1 (.slice (some ⟨g, 0, none⟩) n cap) n xs) (j : Nat) (hj : j < cap) : (w.cell? ⟨g, j, none⟩).isSome = true ∧ w.frozen? ⟨g, j, none⟩ = false := by
  rcases h.2 with ⟨hv, _⟩ | ⟨g', c, cur, hv, hb, hh, h1, h2, h3, h4⟩
  · injection hv with hA _ _; cases hA
  · injection hv with hA _ hc
    injection hA with hA
    injection hA with hA _ _
    subst hA hc
    refine ⟨?_, ?_⟩
    · rw [cell_of_row w g j cur e (0, 0) hh, Array.getElem?_eq_getElem (by omega)]; rfl
    · simp [World.frozen?, hh]
theorem own_room {w : World} {base g n cap : Nat} {e : TypeId} {xs : List Value} (h : w.ownsRow base e 1 (.slice (some ⟨g, 0, none⟩) n cap) n xs) : n ≤ cap ∧ cap ≤ maxLen := by
  rcases h.2 with ⟨hv, _⟩ | ⟨g', c, cur, hv, hb, hh, h1, h2, h3, h4⟩
  · injection hv with hA _ _; cases hA
  · injection hv with _ _ hc; subst hc; exact ⟨h1, h2⟩
theorem own_reads {w : World} {base g n cap : Nat} {e : TypeId} {xs : List Value} (h : w.ownsRow base e 1 (.slice (some ⟨g, 0, none⟩) n cap) n xs) (j : Nat) (u : Value) (hu : xs[j]? = some u) : w.cell? ⟨g, j, none⟩ = some u := by
  have := World.ownsRow.cells h (g := g) rfl j u hu
  rw [Addr.add_lit, Nat.zero_add] at this
  exact this

set_option maxHeartbeats 4000000 in
set_option maxRecDepth 100000 in
/-- slices.Delete of the elements from i on, up to j. -/
theorem delp_rows (xs : List Value) (i j : Nat) (base b c : Nat) (w : World) (hO : w.ownsRow base 45 1 (.slice (some ⟨b, 0, none⟩) xs.length c) xs.length xs) (h1 : ∀ u ∈ xs, u.oneCell' = true) (hij : i < j) (hj : j ≤ xs.length) (hn : xs.length ≤ 1000) :
    Calls Tryd.prog 29 #[.slice (some ⟨b, 0, none⟩) xs.length c, .int .i64 (i : Int), .int .i64 (j : Int)] w fun e w' => e = .returned (.slice (some ⟨b, 0, none⟩) (xs.length - (j - i)) c) ∧ w'.ownsRow base 45 1 (.slice (some ⟨b, 0, none⟩) (xs.length - (j - i)) c) (xs.length - (j - i)) (xs.take i ++ xs.drop j) ∧ w.grownBy w' (some b) := by
  obtain ⟨i0, hi0, hz0, hz1, hz2⟩ := info_parts ptr_info
  obtain ⟨hr1, hr2⟩ := own_room hO
  unfold maxLen at hr2
  obtain ⟨n, HN⟩ : ∃ n, Hid (xs.length = n) := ⟨_, rfl⟩
  have hOn := hO
  rw [HN.out] at hOn hr1 hj hn ⊢
  obtain ⟨news, HNW⟩ : ∃ news, Hid (xs.drop j = news) := ⟨_, rfl⟩
  have hlen : news.length = n - j := by rw [← HNW.out, List.length_drop, HN.out]
  have HLN := Lib.hid hlen
  obtain ⟨A, hA, hsrc⟩ : ∃ A : Addr, (if c = j then some (⟨b, 0, none⟩ : Addr) else some ⟨b, j, none⟩) = some A ∧ Hid (∀ t u, news[t]? = some u → w.drew.cell? (A.add t) = some u) := by
    by_cases h : c = j
    · refine ⟨⟨b, 0, none⟩, by simp [h], fun t u hu => ?_⟩
      have h0 : news.length = 0 := by rw [hlen]; omega
      rw [List.length_eq_zero_iff.1 h0] at hu
      simp at hu
    · refine ⟨⟨b, j, none⟩, by simp [h], fun t u hu => ?_⟩
      rw [← HNW.out, List.getElem?_drop] at hu
      rw [Addr.add_lit]
      exact own_reads hO (j + t) u hu
  have s1 : Hid (news.length = (n - j) * 1) := by show _ = _; rw [Nat.mul_one]; exact hlen
  have s2 : Hid (∀ u ∈ news, u.oneCell' = true) := by
    intro u hu
    rw [← HNW.out] at hu
    exact h1 u (List.mem_of_mem_drop hu)
  have s3 : Hid (∀ t, t < news.length → (w.drew.cell? ⟨b, 0 + i * 1 + t, none⟩).isSome = true ∧ w.drew.frozen? ⟨b, 0 + i * 1 + t, none⟩ = false) := by
    intro t ht
    rw [hlen] at ht
    exact own_cells hO (0 + i * 1 + t) (by omega)
  obtain ⟨W1, HW1⟩ : ∃ W1, Hid (w.drew.setCells b (0 + i * 1) news = W1) := ⟨_, rfl⟩
  have hown1 : W1.ownsRow base 45 1 (.slice (some ⟨b, 0, none⟩) n c) n (setMany xs i news) ∧ w.grownBy W1 (some b) := by
    rw [← HW1.out, Nat.zero_add, Nat.mul_one]
    have h := own_setCells news i w.drew xs hOn
    exact ⟨h.1, ⟨h.2.os, h.2.tape, h.2.output, h.2.size, h.2.block⟩⟩
  have HO1 := Lib.hid hown1.1
  have HG1 := Lib.hid hown1.2
  have hcl : ∀ ty, (Builtin.clear_ #[41] ty #[.slice (some ⟨b, i + (n - j), none⟩) (n - (i + (n - j))) (c - (i + (n - j)))]).run Tryd.prog W1 = .ok (.tuple #[]) (W1.setCells b (i + (n - j)) (List.replicate (n - (i + (n - j))) (.pointer none))) :=
    fun ty => Lib.run_clear_slice W1 _ _ ty (.pointer none) Tryd.underlying41 (fun w => by first | exact Tryd.zeroValue45 w | (simp [go_sem, zeroValue, typeInfo, hi0, hz0])) rfl rfl b (i + (n - j)) _ _ (by omega) (fun t ht => (own_cells HO1.out _ (by omega)).1) (fun t ht => (own_cells HO1.out _ (by omega)).2)
  have HEND : Hid ((W1.setCells b (i + (n - j)) (List.replicate (n - (i + (n - j))) (.pointer none))).ownsRow base 45 1 (.slice (some ⟨b, 0, none⟩) (n - (j - i)) c) (n - (j - i)) (xs.take i ++ xs.drop j) ∧ w.grownBy (W1.setCells b (i + (n - j)) (List.replicate (n - (i + (n - j))) (.pointer none))) (some b)) := by
    have h2 := own_setCells (List.replicate (n - (i + (n - j))) (.pointer none)) (i + (n - j)) W1 _ HO1.out
    refine ⟨?_, World.grownBy.trans HG1.out h2.2⟩
    have h3 := own_fewer h2.1 (n - (j - i)) (by omega)
    have e1 : setMany xs i news = (xs.take i ++ xs.drop j) ++ xs.drop (n - (j - i)) := by
      rw [setMany_eq news xs i (by rw [hlen, HN.out]; omega), HNW.out, hlen, show i + (n - j) = n - (j - i) by omega]
    have e2 : (setMany (setMany xs i news) (i + (n - j)) (List.replicate (n - (i + (n - j))) (.pointer none))).take (n - (j - i)) = xs.take i ++ xs.drop j := by
      rw [setMany_eq _ _ _ (by rw [setMany_length, List.length_replicate, HN.out]; omega), e1, List.append_assoc, show i + (n - j) = n - (j - i) by omega]
      have hl : (xs.take i ++ xs.drop j).length = n - (j - i) := by rw [List.length_append, List.length_take, List.length_drop, HN.out]; omega
      rw [← hl, List.take_left, List.take_left]
    rw [e2] at h3
    exact h3
  have hic : i ≤ c := by omega
  have hjc : j ≤ c := by omega
  have hij' : (i : Int) ≤ (j : Int) := by omega
  have hne : ((i : Int) == (j : Int)) = false := by rw [beq_eq_false_iff_ne]; omega
  clear hO hOn h1 hlen hown1
  go_enter Tryd.func29, Tryd.ntmps29
  go_wp2_with fail
  go_region_law (refine step_append_room rfl (.tmp 22) (.tmp 25) 41 rfl 45 i0 1 Tryd.underlying41 hi0 hz1 b 0 i c (by simp [Act.eval, Act.put]) A (n - j) (c - j) news (by simp [Act.eval, Act.put]) s1.out hsrc.out s2.out (by omega) s3.out ?_; rw [HW1.out])
  go_wp2
  go_ret
  refine ⟨by rw [show n - (j - i) = i + (n - j) by omega]; rfl, ?_⟩
  exact HEND.out

set_option maxHeartbeats 4000000 in
set_option maxRecDepth 100000 in
/-- slices.Delete of the elements from i on, up to j. -/
theorem deli_rows (xs : List Value) (i j : Nat) (base b c : Nat) (w : World) (hO : w.ownsRow base 3 1 (.slice (some ⟨b, 0, none⟩) xs.length c) xs.length xs) (h1 : ∀ u ∈ xs, u.oneCell' = true) (hij : i < j) (hj : j ≤ xs.length) (hn : xs.length ≤ 1000) :
    Calls Tryd.prog 40 #[.slice (some ⟨b, 0, none⟩) xs.length c, .int .i64 (i : Int), .int .i64 (j : Int)] w fun e w' => e = .returned (.slice (some ⟨b, 0, none⟩) (xs.length - (j - i)) c) ∧ w'.ownsRow base 3 1 (.slice (some ⟨b, 0, none⟩) (xs.length - (j - i)) c) (xs.length - (j - i)) (xs.take i ++ xs.drop j) ∧ w.grownBy w' (some b) := by
  obtain ⟨i0, hi0, hz0, hz1, hz2⟩ := info_parts int_info
  obtain ⟨hr1, hr2⟩ := own_room hO
  unfold maxLen at hr2
  obtain ⟨n, HN⟩ : ∃ n, Hid (xs.length = n) := ⟨_, rfl⟩
  have hOn := hO
  rw [HN.out] at hOn hr1 hj hn ⊢
  obtain ⟨news, HNW⟩ : ∃ news, Hid (xs.drop j = news) := ⟨_, rfl⟩
  have hlen : news.length = n - j := by rw [← HNW.out, List.length_drop, HN.out]
  have HLN := Lib.hid hlen
  obtain ⟨A, hA, hsrc⟩ : ∃ A : Addr, (if c = j then some (⟨b, 0, none⟩ : Addr) else some ⟨b, j, none⟩) = some A ∧ Hid (∀ t u, news[t]? = some u → w.drew.cell? (A.add t) = some u) := by
    by_cases h : c = j
    · refine ⟨⟨b, 0, none⟩, by simp [h], fun t u hu => ?_⟩
      have h0 : news.length = 0 := by rw [hlen]; omega
      rw [List.length_eq_zero_iff.1 h0] at hu
      simp at hu
    · refine ⟨⟨b, j, none⟩, by simp [h], fun t u hu => ?_⟩
      rw [← HNW.out, List.getElem?_drop] at hu
      rw [Addr.add_lit]
      exact own_reads hO (j + t) u hu
  have s1 : Hid (news.length = (n - j) * 1) := by show _ = _; rw [Nat.mul_one]; exact hlen
  have s2 : Hid (∀ u ∈ news, u.oneCell' = true) := by
    intro u hu
    rw [← HNW.out] at hu
    exact h1 u (List.mem_of_mem_drop hu)
  have s3 : Hid (∀ t, t < news.length → (w.drew.cell? ⟨b, 0 + i * 1 + t, none⟩).isSome = true ∧ w.drew.frozen? ⟨b, 0 + i * 1 + t, none⟩ = false) := by
    intro t ht
    rw [hlen] at ht
    exact own_cells hO (0 + i * 1 + t) (by omega)
  obtain ⟨W1, HW1⟩ : ∃ W1, Hid (w.drew.setCells b (0 + i * 1) news = W1) := ⟨_, rfl⟩
  have hown1 : W1.ownsRow base 3 1 (.slice (some ⟨b, 0, none⟩) n c) n (setMany xs i news) ∧ w.grownBy W1 (some b) := by
    rw [← HW1.out, Nat.zero_add, Nat.mul_one]
    have h := own_setCells news i w.drew xs hOn
    exact ⟨h.1, ⟨h.2.os, h.2.tape, h.2.output, h.2.size, h.2.block⟩⟩
  have HO1 := Lib.hid hown1.1
  have HG1 := Lib.hid hown1.2
  have hcl : ∀ ty, (Builtin.clear_ #[23] ty #[.slice (some ⟨b, i + (n - j), none⟩) (n - (i + (n - j))) (c - (i + (n - j)))]).run Tryd.prog W1 = .ok (.tuple #[]) (W1.setCells b (i + (n - j)) (List.replicate (n - (i + (n - j))) (.int .i64 0))) :=
    fun ty => Lib.run_clear_slice W1 _ _ ty (.int .i64 0) Tryd.underlying23 (fun w => by first | exact Tryd.zeroValue3 w | (simp [go_sem, zeroValue, typeInfo, hi0, hz0])) rfl rfl b (i + (n - j)) _ _ (by omega) (fun t ht => (own_cells HO1.out _ (by omega)).1) (fun t ht => (own_cells HO1.out _ (by omega)).2)
  have HEND : Hid ((W1.setCells b (i + (n - j)) (List.replicate (n - (i + (n - j))) (.int .i64 0))).ownsRow base 3 1 (.slice (some ⟨b, 0, none⟩) (n - (j - i)) c) (n - (j - i)) (xs.take i ++ xs.drop j) ∧ w.grownBy (W1.setCells b (i + (n - j)) (List.replicate (n - (i + (n - j))) (.int .i64 0))) (some b)) := by
    have h2 := own_setCells (List.replicate (n - (i + (n - j))) (.int .i64 0)) (i + (n - j)) W1 _ HO1.out
    refine ⟨?_, World.grownBy.trans HG1.out h2.2⟩
    have h3 := own_fewer h2.1 (n - (j - i)) (by omega)
    have e1 : setMany xs i news = (xs.take i ++ xs.drop j) ++ xs.drop (n - (j - i)) := by
      rw [setMany_eq news xs i (by rw [hlen, HN.out]; omega), HNW.out, hlen, show i + (n - j) = n - (j - i) by omega]
    have e2 : (setMany (setMany xs i news) (i + (n - j)) (List.replicate (n - (i + (n - j))) (.int .i64 0))).take (n - (j - i)) = xs.take i ++ xs.drop j := by
      rw [setMany_eq _ _ _ (by rw [setMany_length, List.length_replicate, HN.out]; omega), e1, List.append_assoc, show i + (n - j) = n - (j - i) by omega]
      have hl : (xs.take i ++ xs.drop j).length = n - (j - i) := by rw [List.length_append, List.length_take, List.length_drop, HN.out]; omega
      rw [← hl, List.take_left, List.take_left]
    rw [e2] at h3
    exact h3
  have hic : i ≤ c := by omega
  have hjc : j ≤ c := by omega
  have hij' : (i : Int) ≤ (j : Int) := by omega
  have hne : ((i : Int) == (j : Int)) = false := by rw [beq_eq_false_iff_ne]; omega
  clear hO hOn h1 hlen hown1
  go_enter Tryd.func40, Tryd.ntmps40
  go_wp2_with fail
  go_region_law (refine step_append_room rfl (.tmp 22) (.tmp 25) 23 rfl 3 i0 1 Tryd.underlying23 hi0 hz1 b 0 i c (by simp [Act.eval, Act.put]) A (n - j) (c - j) news (by simp [Act.eval, Act.put]) s1.out hsrc.out s2.out (by omega) s3.out ?_; rw [HW1.out])
  go_wp2
  go_ret
  refine ⟨by rw [show n - (j - i) = i + (n - j) by omega]; rfl, ?_⟩
  exact HEND.out

end Go.Proofs.YtlkgadgjcjpdcaaDoor
