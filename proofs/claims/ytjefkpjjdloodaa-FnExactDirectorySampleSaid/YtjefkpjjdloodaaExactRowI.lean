/- Slices of integers as rows of one cell: how the exact laws' helpers over integers act on them. Conditions: marked are at most 2^20. -/
import Derived.Test.YtjefkpjjdloodaaExactRow
import Derived.Test.YtjefkpjjdloodaaBaseD
import Derived.Test.YtjefkpjjdloodaaBaseA
namespace Go.Proofs.Ytjefkpjjdloodaa
open Go.RowKit
set_option linter.unusedVariables false

def IK : Kind Int := ⟨3, 1, 8, fun z => [.int .i64 z], fun _ => rfl, fun r u hu => by
  simp only [List.mem_cons, List.not_mem_nil, or_false] at hu
  subst hu; rfl, by decide⟩

theorem IK_cells (zs : List Int) : IK.cells zs = vals zs := by
  induction zs with
  | nil => rfl
  | cons z zs ih => rw [Kind.cells_cons, ih]; rfl

theorem own_row {w : World} {base c : Nat} {A : Option Addr} {zs : List Int} (h : OwnInts w base A c zs) : OwnRow IK w base A c zs := by
  unfold OwnRow; rw [IK_cells]; exact h

theorem row_own {w : World} {base c : Nat} {A : Option Addr} {zs : List Int} (h : OwnRow IK w base A c zs) : OwnInts w base A c zs := by
  unfold OwnRow at h; rw [IK_cells] at h; exact h

theorem ret_row {w : World} {zs : List Int} {e : Ending} {w' : World} (h : RetInts w zs e w') : RetRow IK w zs e w' := by
  obtain ⟨A, c, he, ho, hb⟩ := h
  exact ⟨A, c, he, own_row ho, hb⟩

theorem eqiK_any (A : Option Addr) (c : Nat) (A1 : Option Addr) (c1 : Nat) (xs : List Int) (w : World) {b0 b1 : Nat} (h0 : OwnRow IK w b0 A c xs) (h1 : OwnRow IK w b1 A1 c1 xs) (hm : xs.length ≤ maxLen) {n : Nat} (hn : xs.length = n) :
    Calls Try.prog 20 #[.slice A n c, .slice A1 n c1] w fun e w' => e = .returned (.bool true) ∧ Below w.heap.size w w' := by
  subst hn
  refine (eqi_any A c xs A1 c1 xs w (row_own h0).ints (row_own h1).ints hm hm).mono ?_
  rintro e w' ⟨rfl, q, rfl⟩
  exact ⟨by rw [decide_eq_true rfl], below_drewN (Below.refl _ _) _⟩

theorem markK_any (base : Nat) (A : Option Addr) (cap : Nat) (xs : List Int) (w : World) (h : OwnRow IK w base A cap xs) (hm : xs.length ≤ 1048576) {n : Nat} (hn : xs.length = n) (hb : base ≤ w.heap.size) :
    Calls Try.prog 21 #[.slice A n cap, .int .i64 1] w fun e w' => e = .returned (.int .i64 ((1 + n : Nat) : Int)) ∧ OwnRow IK w' base A cap (marks 1 n) ∧ Below base w w' := by
  subst hn
  refine (mark_any base A cap xs w (row_own h) hm).mono ?_
  rintro e w' ⟨rfl, ho, hg, hn⟩
  refine ⟨rfl, own_row ho, ?_⟩
  rcases h.nowhere with hA | ⟨g, hA⟩
  · rw [← hn hA]; exact Below.refl _ _
  · have hlt := h.lies g hA
    exact (Below.refl _ _).grown (hg g hA) hb (fun k hk => by injection hk with hk; omega)

theorem heldK_any (A : Option Addr) (cap n : Nat) (w : World) {b : Nat} (h : OwnRow IK w b A cap (marks 1 n)) (hm : n ≤ 1048576) :
    Calls Try.prog 22 #[.slice A n cap, .int .i64 1] w fun e w' => e = .returned (.int .i64 ((1 + n : Nat) : Int)) ∧ Below w.heap.size w w' := by
  refine (held_any A cap n w (row_own h).ints hm).mono ?_
  rintro e w' ⟨rfl, rfl⟩
  exact ⟨rfl, Below.refl _ _⟩

end Go.Proofs.Ytjefkpjjdloodaa
