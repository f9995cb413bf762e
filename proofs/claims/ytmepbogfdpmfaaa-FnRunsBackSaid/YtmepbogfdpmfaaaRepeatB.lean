/- Contract of slices.Repeat at a slice of one bool and a count from 0 to 16: that many times the bool, in memory of the call's own; nothing that was there is changed. Condition: the slice's cell lies in memory. -/
import Derived.Test.YtmepbogfdpmfaaaRepeat
namespace Go.Proofs.Ytmepbogfdpmfaaa
open Go.RowKit
set_option linter.unusedVariables false

/-- n times b, then cells that are not yet written. -/
def rep (b : Bool) (n c : Nat) : List Bool := List.replicate n b ++ noB (c - n)
theorem rep_length (b : Bool) (n c : Nat) (h : n ≤ c) : (rep b n c).length = c := by unfold rep; rw [List.length_append, List.length_replicate, noB_length]; omega
theorem rep_full (b : Bool) (c : Nat) : rep b c c = List.replicate c b := by unfold rep; rw [Nat.sub_self]; show List.replicate c b ++ [] = _; rw [List.append_nil]
theorem rep_none (b : Bool) (c : Nat) : rep b 0 c = noB c := rfl
theorem rep_splice (b : Bool) (n k c : Nat) (h : n + k ≤ c) : splice (bals (rep b n c)) n (bals (List.replicate k b)) = bals (rep b (n + k) c) := by
  unfold splice
  have h1 : (bals (rep b n c)).take n = bals (List.replicate n b) := by
    unfold bals rep
    rw [← List.map_take, List.take_left' List.length_replicate]
  have h2 : (bals (rep b n c)).drop (n + (bals (List.replicate k b)).length) = bals (noB (c - (n + k))) := by
    rw [bals_length, List.length_replicate]
    unfold bals rep noB
    rw [← List.map_drop, ← List.drop_drop, List.drop_left' List.length_replicate, List.drop_replicate]
    congr 2
    omega
  rw [h1, h2]
  unfold rep
  rw [bals_append, ← List.replicate_append_replicate, bals_append, List.append_assoc]
theorem rep_cell {w : World} {g : Nat} {b : Bool} {n c : Nat} (hg : w.heap[g]? = some (.cells (bals (rep b n c)).toArray 4 (0, 0))) (hn : n ≤ c) (k : Nat) (hk : k ≤ n) : ∀ j v, (bals (List.replicate k b))[j]? = some v → w.cell? ((⟨g, 0, none⟩ : Addr).add j) = some v := by
  intro j v hv
  have hj : j < k := by
    have := (List.getElem?_eq_some_iff.1 hv).1
    rwa [bals_length, List.length_replicate] at this
  have hv' : v = .bool b := by
    unfold bals at hv
    rw [List.getElem?_map, List.getElem?_replicate, if_pos hj] at hv
    exact (Option.some.inj hv).symm
  subst hv'
  rw [Addr.add_lit, Nat.zero_add]
  have : (bals (rep b n c))[j]? = some (.bool b) := by
    unfold bals rep
    rw [List.map_append, List.getElem?_append_left (by rw [List.length_map, List.length_replicate]; omega), List.getElem?_map, List.getElem?_replicate, if_pos (by omega)]
    rfl
  exact cell_of_row w g j _ _ (0, 0) (by rw [hg]) |>.trans (by simpa using this)

theorem bool_size : (Try.prog.info? 4).map (·.size) = some 1 := by kernel_rfl

def Repeated (w : World) (b : Bool) (c : Nat) (e : Ending) (w' : World) : Prop :=
  ∃ g, e = .returned (.slice (some ⟨g, 0, none⟩) c c) ∧ OwnBools w' w.heap.size (some ⟨g, 0, none⟩) c (List.replicate c b) ∧ Below w.heap.size w w'
theorem repeated_of {w w' : World} {g : Nat} {b : Bool} {c : Nat} (hg : w'.heap[g]? = some (.cells (bals (List.replicate c b)).toArray 4 (0, 0))) (hb : Below w.heap.size w w') (hgw : w.heap.size ≤ g) (hc : c ≤ 16) :
    OwnBools w' w.heap.size (some ⟨g, 0, none⟩) c (List.replicate c b) := by
  unfold OwnBools
  rw [List.length_replicate]
  refine ⟨by rw [bals_length, List.length_replicate]; omega, .inr ⟨g, c, _, rfl, hgw, hg, Nat.le_refl _, by unfold maxLen; omega, ?_, ?_⟩⟩
  · rw [List.size_toArray, bals_length, List.length_replicate]; omega
  · show (bals (List.replicate c b)).take (c * 1) = _
    rw [List.take_of_length_le (by rw [bals_length, List.length_replicate]; omega)]

set_option maxHeartbeats 4000000 in
set_option maxRecDepth 100000 in
theorem repeat_any (bx : Nat) (b : Bool) (c : Nat) (hc : c ≤ 16) (w : World) (hx : w.cell? ⟨bx, 0, none⟩ = some (.bool b)) (hxw : bx < w.heap.size) :
    Calls Try.prog 33 #[.slice (some ⟨bx, 0, none⟩) 1 1, .int .i64 (c : Int)] w (Repeated w b c) := by
  have hmk := run_make_row' (P := Try.prog) 23 4 (.bool false) 1 Try.underlying23 bool_info rfl .i64 .i64 c (by omega) (by omega)
  simp only [madeCells_bals] at hmk
  have hu : IntKind.u64.wrap (c : Int) = (c : Int) := by
    have key : c = 0 ∨ c = 1 ∨ c = 2 ∨ c = 3 ∨ c = 4 ∨ c = 5 ∨ c = 6 ∨ c = 7 ∨ c = 8 ∨ c = 9 ∨ c = 10 ∨ c = 11 ∨ c = 12 ∨ c = 13 ∨ c = 14 ∨ c = 15 ∨ c = 16 := by omega
    rcases key with rfl | rfl | rfl | rfl | rfl | rfl | rfl | rfl | rfl | rfl | rfl | rfl | rfl | rfl | rfl | rfl | rfl <;> rfl
  have hg0 : (w.alloc (.cells (bals (noB c)).toArray 4)).heap[w.heap.size]? = some (.cells (bals (noB c)).toArray 4 (0, 0)) := heap_alloc_new w _
  obtain ⟨k0, HK⟩ : ∃ k0, Hid (Nat.min 1 c = k0) := ⟨_, rfl⟩
  have hk1 : k0 ≤ 1 := by rw [← HK.out]; exact Nat.min_le_left _ _
  have hkc : k0 ≤ c := by rw [← HK.out]; exact Nat.min_le_right _ _
  have hk0 : k0 = 0 → c = 0 := by
    intro h
    rw [← HK.out] at h
    simp only [Nat.min_def] at h
    split at h <;> omega
  have HK0 := Lib.hid hk0
  have hl0 : (bals (List.replicate k0 b)).length = k0 := by rw [bals_length, List.length_replicate]
  have HL0 := Lib.hid hl0
  have hcell0 : ∀ j v, (bals (List.replicate k0 b))[j]? = some v → (w.alloc (.cells (bals (noB c)).toArray 4)).cell? ((⟨bx, 0, none⟩ : Addr).add j) = some v := by
    intro j v hv
    have hj : j < k0 := by
      have := (List.getElem?_eq_some_iff.1 hv).1
      rwa [hl0] at this
    have hj0 : j = 0 := by omega
    subst hj0
    have hv' : v = .bool b := by
      unfold bals at hv
      rw [List.getElem?_map, List.getElem?_replicate, if_pos hj] at hv
      exact (Option.some.inj hv).symm
    subst hv'
    rw [Addr.add_lit]
    exact (World.cell?_alloc_lt w _ ⟨bx, 0, none⟩ hxw).trans hx
  have HC0 := Lib.hid hcell0
  have HG0 := Lib.hid hg0
  clear hk0 hl0 hcell0 hg0
  go_enter Try.func33, Try.ntmps33
  go_wp2_with (first
    | (go_at_call 40; refine (mul_one c hc _).mono ?_; rintro e w' ⟨rfl, rfl⟩)
    | ((with_reducible refine wpList_copy_splice rfl (.tmp 31) (.tmp 32) 23 23 rfl 4 Try.underlying23 bool_size _ _ _ _ _ _ rfl rfl w.heap.size 0 (bals (noB c)) 4 HG0.out (bals (List.replicate k0 b)) (HL0.out.trans HK.out.symm) (fun _ => ⟨rfl, _, rfl, HC0.out⟩) (by rw [HL0.out, bals_length, noB_length, Nat.zero_add]; exact hkc) (bals_one _) w.heap.size w ((Below.refl _ _).alloc (Nat.le_refl _) _) (Nat.le_refl _) ?_); intro w5 hg5 hb5; rw [HL0.out]))
  have HG5 : Hid (w5.heap[w.heap.size]? = some (.cells (bals (rep b k0 c)).toArray 4 (0, 0))) := by
    have := hg5.out
    rw [show bals (noB c) = bals (rep b 0 c) from rfl, rep_splice b 0 k0 c (by omega), Nat.zero_add] at this
    exact this
  have HB5 := Lib.hid hb5
  clear hg5 hb5 HC0 HG0 HL0 HK hmk hx
  go_loopw [8] (fun i wr => ∃ n : Nat, n ≤ c ∧ i = .int .i64 (n : Int) ∧ Hid (n = 0 → c = 0) ∧ Hid (wr.heap[w.heap.size]? = some (.cells (bals (rep b n c)).toArray 4 (0, 0))) ∧ Hid (Below w.heap.size w wr)) (fun i _ => c - (intOf i).toNat)
  case atStart => exact ⟨k0, hkc, rfl, HK0, HG5, HB5⟩
  case round =>
    clear HG5 HB5 HK0
    obtain ⟨n, hn, rfl, HZ, HG, HB⟩ := hrel
    by_cases hlt : n < c
    · obtain ⟨k, HK⟩ : ∃ k, Hid (Nat.min n (c - n) = k) := ⟨_, rfl⟩
      have hkn : k ≤ n := by rw [← HK.out]; exact Nat.min_le_left _ _
      have hkc2 : k ≤ c - n := by rw [← HK.out]; exact Nat.min_le_right _ _
      have hk0 : 0 < k := by
        have : 0 < n := by
          rcases Nat.eq_zero_or_pos n with h | h
          · have := HZ.out h; omega
          · exact h
        rw [← HK.out]
        simp only [Nat.min_def]
        split <;> omega
      have HL : Hid ((bals (List.replicate k b)).length = k) := by show _ = _; rw [bals_length, List.length_replicate]
      have HCELL : Hid (∀ j v, (bals (List.replicate k b))[j]? = some v → wr.cell? ((⟨w.heap.size, 0, none⟩ : Addr).add j) = some v) := rep_cell HG.out hn k hkn
      have hni : (n : Int) ≤ (c : Int) := by omega
      have hn0 : (0 : Int) ≤ (n : Int) := by omega
      have hcn : ¬ c = n := by omega
      have hnc : ¬ n = c := by omega
      have hw1 : IntKind.i64.wrap ((n : Int) + (k : Int)) = (n : Int) + (k : Int) := IntWalk.i64_in _ (by omega)
      go_wp2_with fail
      go_region_law (refine step_copy_splice rfl (.tmp 41) (.tmp 44) 23 23 rfl 4 Try.underlying23 bool_size (some ⟨w.heap.size, n, none⟩) (some ⟨w.heap.size, 0, none⟩) (c - n) (c - n) n c (by simp [Act.eval, Act.put]) (by simp [Act.eval, Act.put]) w.heap.size n (bals (rep b n c)) 4 HG.out (bals (List.replicate k b)) (HL.out.trans HK.out.symm) (fun _ => ⟨rfl, _, rfl, HCELL.out⟩) (by rw [HL.out, bals_length, rep_length b n c hn]; omega) (bals_one _) w.heap.size w (below_drew HB.out) (Nat.le_refl _) ?_; intro w6 hg6 hb6; rw [HL.out])
      have HG6 : Hid (w6.heap[w.heap.size]? = some (.cells (bals (rep b (n + k) c)).toArray 4 (0, 0))) := by
        have := hg6.out
        rw [rep_splice b n k c (by omega)] at this
        exact this
      have HB6 := Lib.hid hb6
      have HZ6 : Hid (n + k = 0 → c = 0) := fun h => by omega
      clear hg6 hb6 HCELL HL HK hw1
      simp only [Act.put, List.getElem_toArray, List.getElem_cons_zero, List.getElem_cons_succ, Array.setIfInBounds, List.size_toArray, List.length_cons, List.length_nil, Nat.reduceAdd, Nat.reduceLT, dite_true, List.set_toArray, List.set_cons_zero, List.set_cons_succ]
      go_wp2
      go_roundw
      case rel => exact ⟨n + k, by omega, by go_num, HZ6, HG6, HB6⟩
      case measure => simp [intOf]; omega
    · have hnc : n = c := by omega
      subst hnc
      have hg := HG.out
      rw [rep_full] at hg
      have HGF := Lib.hid hg
      clear hg
      go_wp2
      go_ret
      exact ⟨w.heap.size, rfl, repeated_of HGF.out HB.out (Nat.le_refl _) hc, HB.out⟩

end Go.Proofs.Ytmepbogfdpmfaaa
