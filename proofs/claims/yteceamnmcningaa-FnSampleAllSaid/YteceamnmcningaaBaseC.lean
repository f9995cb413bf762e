/- Contracts of l91Digest and DrawDigestPair: they return integers from -1 to 991, move the reader on, and change nothing that was there before. Condition: the reader's place is at most 100000; the code's bytes lie in memory. -/
import Derived.Test.YteceamnmcningaaBaseA
namespace Go.Proofs.Yteceamnmcningaa
open Go.RowKit

def DigDrawn (w : World) (B g : Nat) (A : Option Addr) (len cap p : Nat) (e : Ending) (w' : World) : Prop :=
  ∃ (d : Int) (p' : Nat), -1 ≤ d ∧ d ≤ 991 ∧ p' ≤ p + 3 ∧ e = .returned (.int .i64 d) ∧ Rd w' B g A len cap p' ∧ Below B w w' ∧ w.grownBy w' (some g)

theorem grown_of_alloc (w : World) (o : Obj) (row : Option Nat) : w.grownBy (w.alloc o) row := ⟨rfl, rfl, rfl, by simp, fun i hi _ => Below.heap_alloc w o i hi⟩
theorem Picked.below {w w' : World} {B g : Nat} (hg : w.grownBy w' (some g)) (hb : B ≤ g) (hl : g < w.heap.size) : Below B w w' :=
  (Below.refl B w).grown hg (by omega) (fun k hk => by injection hk with hk; omega)



end Go.Proofs.Yteceamnmcningaa
