/- Contracts of the laws' functions toHead and eqHead: a head copied, two heads compared. No conditions. -/
import Derived.Test.YtgpmodidpdjhkaaMake
namespace Go.Proofs.Ytgpmodidpdjhkaa
open Go.RowKit
set_option linter.unusedVariables false

set_option maxHeartbeats 2000000 in
set_option maxRecDepth 100000 in
theorem toHead_any (l d s : Int) (w : World) :
    Calls Try.prog 79 #[.agg #[.int .i64 l, .int .i64 d, .int .i64 s]] w fun e w' => e = .returned (headV l d s) ∧ Below w.heap.size w w' := by
  go_enter Try.func79, Try.ntmps79
  go_wp2
  have hblk : Blk (((w.alloc (.cells #[.int .i64 l, .int .i64 d, .int .i64 s] 50)).alloc (.cells #[.int .i64 l, .int .i64 d, .int .i64 s] 25)).alloc (.cells #[.int .i64 l, .int .i64 d, .int .i64 s] 25)) (w.heap.size + 1) 25 #[.int .i64 l, .int .i64 d, .int .i64 s] := by
    have h := (Blk.new (w.alloc (.cells #[.int .i64 l, .int .i64 d, .int .i64 s] 50)) 25 #[.int .i64 l, .int .i64 d, .int .i64 s]).alloc (.cells #[.int .i64 l, .int .i64 d, .int .i64 s] 25)
    rw [World.size_alloc] at h
    exact h
  have hbel : Below w.heap.size w (((w.alloc (.cells #[.int .i64 l, .int .i64 d, .int .i64 s] 50)).alloc (.cells #[.int .i64 l, .int .i64 d, .int .i64 s] 25)).alloc (.cells #[.int .i64 l, .int .i64 d, .int .i64 s] 25)) :=
    (((Below.refl _ w).alloc (Nat.le_refl _) _).alloc (by simp) _).alloc (by simp; omega) _
  obtain ⟨W, HW⟩ : ∃ W, Hid (((w.alloc (.cells #[.int .i64 l, .int .i64 d, .int .i64 s] 50)).alloc (.cells #[.int .i64 l, .int .i64 d, .int .i64 s] 25)).alloc (.cells #[.int .i64 l, .int .i64 d, .int .i64 s] 25) = W) := ⟨_, rfl⟩
  rw [HW.out] at hblk hbel ⊢
  have c0 : W.cell? ⟨w.heap.size + 1, 0, none⟩ = some (.int .i64 l) := hblk.cell 0
  have c1 : W.cell? ⟨w.heap.size + 1, 1, none⟩ = some (.int .i64 d) := hblk.cell 1
  have c2 : W.cell? ⟨w.heap.size + 1, 2, none⟩ = some (.int .i64 s) := hblk.cell 2
  exact bodyPost_ret (v := headV l d s) (by simp [results, Try.results79, go_sem, c0, c1, c2]) rfl ⟨rfl, hbel⟩

set_option maxHeartbeats 2000000 in
theorem eqHead_same (l d s : Int) (w : World) :
    Calls Try.prog 70 #[headV l d s, headV l d s] w fun e w' => e = .returned (.bool true) ∧ Below w.heap.size w w' := by
  go_enter Try.func70, Try.ntmps70
  go_wp2
  go_ret
  exact ⟨rfl, ((Below.refl _ _).alloc (Nat.le_refl _) _).alloc (by simp) _⟩

end Go.Proofs.Ytgpmodidpdjhkaa
