/- How two connections are compared: cmp.Compare, cmp.Or and compareLinks. No conditions. -/
import Derived.Test.YtkmebilhbjcfpaaWorldData
import Derived.Test.YtkmebilhbjcfpaaBaseA
import Derived.Test.YtkmebilhbjcfpaaBlk
import Derived.Deep.RegionHeld3
import Derived.Deep.DeepCutAuto
import Derived.Lib.Hide
namespace Go.Proofs.Ytkmebilhbjcfpaa
open Go.RowKit
set_option linter.unusedVariables false

def LcmpI (a b : Int) : Int := if a < b then -1 else if b < a then 1 else 0
def LorI (a b : Int) : Int := if a = 0 then b else a

set_option maxHeartbeats 1000000 in
theorem Lisnan_any (a : Int) (w : World) : Calls Try.prog 101 #[.int .i64 a] w fun e w' => e = .returned (.bool false) ∧ w' = w := by
  go_enter Try.func101, Try.ntmps101
  go_wp2
  go_ret
  exact ⟨by simp, rfl⟩
set_option maxHeartbeats 1000000 in
theorem Lcompare_any (a b : Int) (w : World) : Calls Try.prog 84 #[.int .i64 a, .int .i64 b] w fun e w' => e = .returned (.int .i64 (LcmpI a b)) ∧ w' = w := by
  have C1 := fun w => Lisnan_any a w
  have C2 := fun w => Lisnan_any b w
  obtain ⟨r, hr, hR⟩ : ∃ r, LcmpI a b = r ∧ ((a < b ∧ r = -1) ∨ (¬ a < b ∧ b < a ∧ r = 1) ∨ (¬ a < b ∧ ¬ b < a ∧ r = 0)) := by
    refine ⟨_, rfl, ?_⟩
    unfold LcmpI
    by_cases h1 : a < b
    · exact .inl ⟨h1, if_pos h1⟩
    · by_cases h2 : b < a
      · exact .inr (.inl ⟨h1, h2, by rw [if_neg h1, if_pos h2]⟩)
      · exact .inr (.inr ⟨h1, h2, by rw [if_neg h1, if_neg h2]⟩)
  rw [hr]
  clear hr
  rcases hR with ⟨h1, rfl⟩ | ⟨h1, h2, rfl⟩ | ⟨h1, h2, rfl⟩
  · go_enter Try.func84, Try.ntmps84
    go_wp2_with fail
    refine (C1 _).mono ?_
    rintro e w1 ⟨rfl, rfl⟩
    go_wp2_with fail
    refine (C2 _).mono ?_
    rintro e w1 ⟨rfl, rfl⟩
    go_wp2
    go_ret
    exact ⟨rfl, rfl⟩
  · go_enter Try.func84, Try.ntmps84
    go_wp2_with fail
    refine (C1 _).mono ?_
    rintro e w1 ⟨rfl, rfl⟩
    go_wp2_with fail
    refine (C2 _).mono ?_
    rintro e w1 ⟨rfl, rfl⟩
    go_wp2
    go_ret
    exact ⟨rfl, rfl⟩
  · go_enter Try.func84, Try.ntmps84
    go_wp2_with fail
    refine (C1 _).mono ?_
    rintro e w1 ⟨rfl, rfl⟩
    go_wp2_with fail
    refine (C2 _).mono ?_
    rintro e w1 ⟨rfl, rfl⟩
    go_wp2
    go_ret
    exact ⟨rfl, rfl⟩
set_option maxHeartbeats 1000000 in
theorem Lor_any (A : Option Addr) (cap : Nat) (a b : Int) (w : World) (hI : IntsAt w w.heap.size A [a, b]) : Calls Try.prog 83 #[.slice A 2 cap] w fun e w' => e = .returned (.int .i64 (LorI a b)) ∧ w' = w := by
  obtain ⟨g, o, rfl, _, hc⟩ := hI (by simp)
  have c0 : w.cell? ⟨g, o + 0, none⟩ = some (.int .i64 a) := hc 0 (by simp)
  have c1 : w.cell? ⟨g, o + 1, none⟩ = some (.int .i64 b) := hc 1 (by simp)
  rw [Nat.add_zero] at c0
  clear hc hI
  have ho : LorI a b = if a = 0 then b else a := rfl
  by_cases h0 : a = 0
  · rw [ho, if_pos h0]
    clear ho
    subst h0
    by_cases h1 : b = 0
    · subst h1
      go_enter Try.func83, Try.ntmps83
      go_wp2
      refine wp_loop_rounds 3 ?_
      rw [rounds_succ]
      go_wp2
      rw [rounds_succ]
      go_wp2
      rw [rounds_succ]
      go_wp2
      go_ret
      exact ⟨rfl, rfl⟩
    · have hb : (b == 0) = false := beq_eq_false_iff_ne.2 h1
      go_enter Try.func83, Try.ntmps83
      go_wp2
      refine wp_loop_rounds 2 ?_
      rw [rounds_succ]
      go_wp2
      rw [rounds_succ]
      go_wp2
      go_ret
      exact ⟨rfl, rfl⟩
  · rw [ho, if_neg h0]
    clear ho
    have ha : (a == 0) = false := beq_eq_false_iff_ne.2 h0
    go_enter Try.func83, Try.ntmps83
    go_wp2
    refine wp_loop_rounds 1 ?_
    rw [rounds_succ]
    go_wp2
    go_ret
    exact ⟨rfl, rfl⟩

theorem Ltwo_new (W : World) (a b : Int) : IntsAt (W.alloc (.cells #[.int .i64 a, .int .i64 b] 3)) (W.alloc (.cells #[.int .i64 a, .int .i64 b] 3)).heap.size (some ⟨W.heap.size, 0, none⟩) [a, b] := fun _ => by
  have hb := Blk.new W 3 #[.int .i64 a, .int .i64 b]
  refine ⟨W.heap.size, 0, rfl, by simp, fun k hk => ?_⟩
  rw [Nat.zero_add, hb.cell k]
  rcases k with _ | _ | k
  · rfl
  · rfl
  · simp at hk; omega
theorem Ltwo_newD (W : World) (a b : Int) : IntsAt (W.alloc (.cells #[.int .i64 a, .int .i64 b] 3)).drew (W.alloc (.cells #[.int .i64 a, .int .i64 b] 3)).drew.heap.size (some ⟨W.heap.size, 0, none⟩) [a, b] := Ltwo_new W a b


/-- How two connections are compared. -/
def cmpK (x y : LinkD) : Int := LorI (LcmpI x.a y.a) (LcmpI x.b y.b)
theorem cmpK_neg (x y : LinkD) : cmpK x y < 0 ↔ ltK x y := by
  unfold cmpK LorI LcmpI ltK
  split <;> split <;> (try split) <;> (try split) <;> omega
theorem cmpK_zero (x y : LinkD) : cmpK x y = 0 ↔ x = y := by
  constructor
  · intro h
    unfold cmpK LorI LcmpI at h
    refine LinkD.same ?_ ?_
    · split at h <;> split at h <;> (try split at h) <;> (try split at h) <;> omega
    · split at h <;> split at h <;> (try split at h) <;> (try split at h) <;> omega
  · rintro rfl
    unfold cmpK LorI LcmpI
    simp
theorem link2 {W : World} {g : Nat} {t : TypeId} {v0 v1 : Value} (h : Blk W g t #[v0, v1]) : W.cell? ⟨g, 0, none⟩ = some v0 ∧ W.cell? ⟨g, 1, none⟩ = some v1 := ⟨h.cell 0, h.cell 1⟩

set_option maxHeartbeats 3000000 in
set_option maxRecDepth 100000 in
theorem cmpLinks_any (x y : LinkD) (w : World) :
    Calls Try.prog 54 #[.agg #[.int .i64 x.a, .int .i64 x.b], .agg #[.int .i64 y.a, .int .i64 y.b]] w fun e w' => e = .returned (.int .i64 (cmpK x y)) ∧ Below w.heap.size w w' := by
  obtain ⟨xa, xb⟩ := x
  obtain ⟨ya, yb⟩ := y
  have HO : Hid (cmpK ⟨xa, xb⟩ ⟨ya, yb⟩ = LorI (LcmpI xa ya) (LcmpI xb yb)) := rfl
  rw [HO.out]
  obtain ⟨W, HW⟩ : ∃ W, Hid ((w.alloc (.cells #[.int .i64 xa, .int .i64 xb] 55)).alloc (.cells #[.int .i64 ya, .int .i64 yb] 55) = W) := ⟨_, rfl⟩
  have KX : Hid (Blk W w.heap.size 55 #[.int .i64 xa, .int .i64 xb]) := by rw [← HW.out]; exact (Blk.new w _ _).alloc _
  have KY : Hid (Blk W (w.heap.size + 1) 55 #[.int .i64 ya, .int .i64 yb]) := by
    rw [← HW.out]
    have := Blk.new (w.alloc (.cells #[.int .i64 xa, .int .i64 xb] 55)) 55 #[.int .i64 ya, .int .i64 yb]
    rwa [World.size_alloc] at this
  have HB : Hid (Below w.heap.size w W) := by rw [← HW.out]; exact ((Below.refl _ w).alloc (Nat.le_refl _) _).alloc (by rw [World.size_alloc]; omega) _
  obtain ⟨x0, x1⟩ := link2 KX.out
  obtain ⟨y0, y1⟩ := link2 KY.out
  have hsz : w.heap.size ≤ W.heap.size := HB.out.size
  go_enter Try.func54, Try.ntmps54
  go_upto_region 1 with fail
  rw [HW.out]
  go_region_held3 (fun w' => w'.cell? ⟨w.heap.size, 0, none⟩ = some (.int .i64 xa) ∧ w'.cell? ⟨w.heap.size, 1, none⟩ = some (.int .i64 xb) ∧ w'.cell? ⟨w.heap.size + 1, 0, none⟩ = some (.int .i64 ya) ∧ w'.cell? ⟨w.heap.size + 1, 1, none⟩ = some (.int .i64 yb)) (go_keep)
    (first
      | (go_at_call 84; (with_reducible refine (Lcompare_any _ _ _).mono ?_); rintro e w' ⟨rfl, rfl⟩)
      | (go_at_call 83; (with_reducible refine (Lor_any _ _ _ _ _ (Ltwo_newD _ _ _)).mono ?_); rintro e w' ⟨rfl, rfl⟩))
  all_goals (go_wp2; go_ret)
  all_goals exact ⟨rfl, HB.out.trans (below_drew ((Below.refl _ _).alloc (by omega) _))⟩
end Go.Proofs.Ytkmebilhbjcfpaa
