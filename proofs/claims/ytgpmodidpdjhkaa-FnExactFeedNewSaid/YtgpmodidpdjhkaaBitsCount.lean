/- Contracts of BitsCount and of its model: the number of bits that are set, or -1 if there are more than 16; nothing that was there is changed. Condition: the bits lie in memory. -/
import Derived.Test.YtgpmodidpdjhkaaRunsIter
namespace Go.Proofs.Ytgpmodidpdjhkaa
open Go.RowKit Go.Shelf
set_option linter.unusedVariables false

set_option maxHeartbeats 400000 in
theorem bitsValid_yes (A : Option Addr) (len cap : Nat) (w : World) (h : len ≤ 16) :
    Calls Try.prog 55 #[.slice A len cap] w fun e w' => e = .returned (.bool true) ∧ w = w' := by
  go_enter Try.func55, Try.ntmps55
  go_wp2
  go_ret
  exact ⟨ret_bool (by simp; omega), rfl⟩

set_option maxHeartbeats 400000 in
theorem bitsValid_no (A : Option Addr) (len cap : Nat) (w : World) (h : 16 < len) :
    Calls Try.prog 55 #[.slice A len cap] w fun e w' => e = .returned (.bool false) ∧ w = w' := by
  go_enter Try.func55, Try.ntmps55
  go_wp2
  go_ret
  exact ⟨ret_bool (by simp; omega), rfl⟩

section
attribute [local go_sem] Oper.semAt_some

set_option maxRecDepth 100000 in
set_option maxHeartbeats 4000000 in
theorem bitsCount_in (n : Nat) (hn : 3 ≤ n) (A : Option Addr) (cap : Nat) (bs : List Bool) (w : World) (hl : bs.length ≤ 16) (hI : BoolsAt w w.heap.size A bs) :
    CallsIn Fence.wide n Try.prog 17 #[.slice A bs.length cap] w fun e w' => e = .returned (.int .i64 (cntB bs : Int)) ∧ Below w.heap.size w w' := by
  have h1 : 1 ≤ n := by omega
  have HI := Lib.hid hI
  have HL := Lib.hid hl
  clear hI
  obtain ⟨m, HM⟩ : ∃ m, Hid (bs.length = m) := ⟨_, rfl⟩
  rw [HM.out] at hl ⊢
  refine callsIn_of_wp_marks Try.func17 rfl trivial ?_ rfl
  simp only [Try.ntmps17, List.size_toArray, List.length_cons, List.length_nil, Nat.reduceAdd, Nat.reduceSub, Array.replicate_succ, Array.replicate_zero, List.push_toArray, List.append_toArray, List.nil_append, List.cons_append]
  gi_wp2_with (first
    | (refine ⟨trivial, ?_⟩; gi_at_call 55; refine (callsIn_wide.2 (bitsValid_yes _ _ _ _ hl)).mono ?_; rintro e w' ⟨rfl, rfl⟩)
    | (refine ⟨trivial, ?_⟩; gi_at_call 56; refine (runs_in (n - 1) _ _ _ _).mono ?_; rintro e w' ⟨rfl, rfl⟩))
  have bS := Boxed.new w 3 (.int .i64 0)
  have bN := Boxed.new (w.alloc (.cells #[.int .i64 0] 3)) 27 (.slice A m cap)
  rw [World.size_alloc] at bN
  have hB0 : Below w.heap.size w ((w.alloc (.cells #[.int .i64 0] 3)).alloc (.cells #[.slice A m cap] 27)) := ((Below.refl _ w).alloc (Nat.le_refl _) _).alloc (by simp) _
  refine wpIn_rangeFunc_ownG rfl h1 (gf := 98) (lb := #[.pointer (some ⟨w.heap.size + 1, 0, none⟩)]) rfl trivial (enters_of Try.func98 (by kernel_rfl) rfl)
    (runs_stops (n - 1) (by omega) (w.heap.size + 1) w.heap.size A cap bs HL.out _ (by simp) (by simp; omega) (by rw [HM.out]; exact bN.cell) (HI.out.below hB0 (Nat.le_refl _))) belowK_t (belowK_b (by simp; omega)) (Below.refl _ _) (fun _ => rfl)
    (fun pre W => (W.cell? ⟨w.heap.size, 0, none⟩ = some (.int .i64 (sumSet (pre.map Run.pair) : Int)) ∧ W.frozen? ⟨w.heap.size, 0, none⟩ = false) ∧ Below w.heap.size w W)
    (fun _ _ _ => False)
    (OwnFrom.and (Own.from (fun s A B row hs hg hr => ⟨cell_kept hs.1 hg hr, (frozen_kept hs.1 hg hr).trans hs.2⟩) _) (ownFrom_below (Nat.le_refl _) (by simp; omega)))
    (fun _ _ _ _ _ hs _ _ => hs)
    ⟨⟨(bS.alloc _).cell, (bS.alloc _).frozen⟩, hB0⟩
    (fun x => { tmps := #[.slice A m cap, undef, .int .i64 0, .pointer (some ⟨w.heap.size, 0, none⟩), .bool x.set, .int .i64 (x.len : Int), .slice A m cap, .bool true, .bool false, .slice A m cap, .func (.func 98) #[] #[.pointer (some ⟨w.heap.size + 1, 0, none⟩)], .bool x.set, .int .i64 (x.len : Int), undef, undef, undef, undef, undef], defers := [] }) ?assign ?body ?done ?stop
  case assign =>
    intro l x W K hK
    gi_wp2
    exact hK
  case body =>
    rintro l pre ⟨s, c, hs⟩ W ⟨⟨hc, hf⟩, hB⟩ hpre
    have hsum := sumSet_small pre
    have hnx : sumSet ((pre ++ [(⟨s, c, hs⟩ : Run)]).map Run.pair) = sumSet (pre.map Run.pair) + (if s then c else 0) := by
      rw [List.map_append, List.map_cons, List.map_nil, sumSet_snoc]; rfl
    have hp17 : pre.length ≤ 16 := by rw [HM.out] at hpre; omega
    obtain ⟨t, HT⟩ : ∃ t, Hid (sumSet (pre.map Run.pair) = t) := ⟨_, rfl⟩
    rw [HT.out] at hc hsum hnx
    have HN := Lib.hid hnx
    clear hnx hpre
    cases s with
    | true =>
      gi_wp2
      exact ⟨(KeepsOthers.setCell _ _ _).from _, (Below.refl w.heap.size W).setCell (p := ⟨w.heap.size, 0, none⟩) (Nat.le_refl _) _, ⟨by rw [HN.out]; exact World.cell?_setCell_same' _ _ _ (by rw [hc]; rfl), by rw [World.frozen?_setCell]; exact hf⟩, hB.setCell (p := ⟨w.heap.size, 0, none⟩) (Nat.le_refl _) _⟩
    | false =>
      gi_wp2
      exact ⟨KeepsFrom.refl _ _, Below.refl _ _, ⟨by rw [HN.out]; exact hc, hf⟩, hB⟩
  case done =>
    rintro D ys W hD hys ⟨⟨hc, _⟩, hB⟩ hK
    rw [hys, sumSet_runsL] at hc
    gi_wp2
    refine ⟨by simp, .inl ⟨_, _, rfl, run_takeDeferred hK, ?_⟩⟩
    exact ⟨_, results_tmp rfl _ _ _, rfl, hB.trans (belowK_b (w := w) (Nat.le_refl _) W D _ _ (by simp at hD; omega) hK rfl rfl)⟩
  case stop =>
    rintro D c pre W _ _ h _
    exact h.elim

end

theorem bitsCount_yes (A : Option Addr) (cap : Nat) (bs : List Bool) (w : World) (hl : bs.length ≤ 16) (hI : BoolsAt w w.heap.size A bs) :
    Calls Try.prog 17 #[.slice A bs.length cap] w fun e w' => e = .returned (.int .i64 (cntB bs : Int)) ∧ Below w.heap.size w w' :=
  callsIn_wide.1 (bitsCount_in 3 (Nat.le_refl _) A cap bs w hl hI)

set_option maxHeartbeats 400000 in
theorem bitsCount_no (A : Option Addr) (len cap : Nat) (w : World) (h : 16 < len) :
    Calls Try.prog 17 #[.slice A len cap] w fun e w' => e = .returned (.int .i64 (-1)) ∧ w = w' := by
  go_enter Try.func17, Try.ntmps17
  go_wp2_with (go_at_call 55; refine (bitsValid_no _ _ _ _ h).mono ?_; rintro e w' ⟨rfl, rfl⟩)
  go_ret
  exact ⟨rfl, rfl⟩

/-- What BitsCount answers. -/
def countOr (bs : List Bool) : Int := if bs.length ≤ 16 then (cntB bs : Int) else -1
theorem countOr_yes {bs : List Bool} (h : bs.length ≤ 16) : countOr bs = (cntB bs : Int) := if_pos h
theorem countOr_no {bs : List Bool} (h : 16 < bs.length) : countOr bs = -1 := if_neg (by omega)

theorem bitsCount_any (A : Option Addr) (cap : Nat) (bs : List Bool) (w : World) (hI : BoolsAt w w.heap.size A bs) :
    Calls Try.prog 17 #[.slice A bs.length cap] w fun e w' => e = .returned (.int .i64 (countOr bs)) ∧ Below w.heap.size w w' := by
  by_cases h : bs.length ≤ 16
  · rw [countOr_yes h]; exact bitsCount_yes A cap bs w h hI
  · rw [countOr_no (by omega)]
    exact (bitsCount_no A bs.length cap w (by omega)).mono fun e w' ⟨he, hw⟩ => ⟨he, by rw [← hw]; exact Below.refl _ _⟩

set_option maxHeartbeats 1000000 in
theorem scount_any (A : Option Addr) (cap : Nat) (bs : List Bool) (w : World) (hI : BoolsAt w w.heap.size A bs) (hm : bs.length ≤ maxLen) :
    Calls Try.prog 93 #[.slice A bs.length cap] w fun e w' => e = .returned (.int .i64 (cntB bs : Int)) ∧ w = w' := by
  unfold maxLen at hm
  have HI := Lib.hid hI
  clear hI
  obtain ⟨m, HM⟩ : ∃ m, Hid (bs.length = m) := ⟨_, rfl⟩
  rw [HM.out] at hm ⊢
  go_enter Try.func93, Try.ntmps93
  go_wp2
  go_loop [3, 4] (fun x i => ∃ k c : Nat, k ≤ m ∧ c ≤ k ∧ i = .int .i64 k ∧ x = .int .i64 c ∧ Hid (cntB (bs.take k) = c)) (fun _ i => m - (intOf i).toNat)
  case atStart => exact ⟨0, 0, by omega, by omega, rfl, rfl, rfl⟩
  case round =>
    obtain ⟨k, c, hk, hc, rfl, rfl, HC⟩ := hrel
    by_cases hlt : k < m
    · have hkz : k < bs.length := by rw [HM.out]; exact hlt
      obtain ⟨b, o, rfl, hb, hcs⟩ := HI.out (by omega)
      have hck := hcs k hkz
      have hki : (k : Int) < (m : Int) := by omega
      have hn := cntB_next bs k hkz
      rw [HC.out] at hn
      cases hv : bth bs k with
      | true =>
        rw [hv] at hck hn
        have HN : Hid (cntB (bs.take (k + 1)) = c + 1) := hn
        clear hn hcs hv hkz
        go_wp2
        go_round
        case rel => exact ⟨k + 1, c + 1, by omega, by omega, by go_num, by go_num, HN⟩
        case measure => simp [intOf]; omega
      | false =>
        rw [hv] at hck hn
        have HN : Hid (cntB (bs.take (k + 1)) = c) := hn
        clear hn hcs hv hkz
        go_wp2
        go_round
        case rel => exact ⟨k + 1, c, by omega, by omega, by go_num, rfl, HN⟩
        case measure => simp [intOf]; omega
    · have HE : Hid (c = cntB bs) := by
        show _ = _
        rw [← HC.out, List.take_of_length_le (by rw [HM.out]; omega)]
      go_wp2
      go_ret
      exact ⟨ret_int (by rw [HE.out]), rfl⟩



end Go.Proofs.Ytgpmodidpdjhkaa
