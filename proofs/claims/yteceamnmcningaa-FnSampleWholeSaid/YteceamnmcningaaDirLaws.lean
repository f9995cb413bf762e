/- Contracts of the laws' helpers over directories, of calls that leave what was there: restated for the laws' walks. Conditions: the lists lie in memory. -/
import Derived.Test.YteceamnmcningaaSDir3
import Derived.Test.YteceamnmcningaaSame
namespace Go.Proofs.Yteceamnmcningaa
open Go.RowKit
set_option linter.unusedVariables false

theorem ltimeB_any (A : Option Addr) (cap : Nat) (xs : List LD) (v : Int) (w : World) (hA : LisAt w w.heap.size A cap xs) {n : Nat} (hn : xs.length = n) :
    Calls Try.prog 20 #[.slice A n cap, .int .i64 v] w fun e w' => e = .returned (.int .i64 (timeB xs v)) ∧ Below w.heap.size w w' :=
  (ltime_any A cap xs v w hA hn).mono fun e w' ⟨h1, h2⟩ => ⟨h1, by rw [h2]; exact Below.refl _ _⟩

theorem sdirValidB_any (A : Option Addr) (cap : Nat) (xs : List LD) (w : World) (hA : LisAt w w.heap.size A cap xs) {n : Nat} (hn : xs.length = n) :
    Calls Try.prog 21 #[.slice A n cap] w fun e w' => e = .returned (.bool (dirB xs)) ∧ Below w.heap.size w w' :=
  (sdirValid_any A cap xs w hA hn).mono fun e w' ⟨h1, q, h2⟩ => ⟨h1, by rw [h2]; exact below_drewN (Below.refl _ _) _⟩

theorem hasLB_any (A : Option Addr) (cap : Nat) (xs : List Int) (a : Int) (w : World) (hI : IntsAt w w.heap.size A xs) (hm : xs.length ≤ maxLen) {n : Nat} (hn : xs.length = n) :
    Calls Try.prog 29 #[.slice A n cap, .int .i64 a] w fun e w' => e = .returned (.bool (decide (a ∈ xs))) ∧ Below w.heap.size w w' := by
  subst hn
  exact (hasL_any A cap xs a w hI hm).mono fun e w' ⟨h1, h2⟩ => ⟨h1, by rw [h2]; exact Below.refl _ _⟩

theorem sameIB_any (A : Option Addr) (cap : Nat) (A1 : Option Addr) (cap1 : Nat) (xs : List Int) (w : World) (hI : IntsAt w w.heap.size A xs) (hJ : IntsAt w w.heap.size A1 xs) (hm : xs.length ≤ maxLen) {n : Nat} (hn : xs.length = n) :
    Calls Try.prog 28 #[.slice A n cap, .slice A1 n cap1] w fun e w' => e = .returned (.bool true) ∧ Below w.heap.size w w' := by
  subst hn
  refine (same_any A cap xs A1 cap1 xs w hI hJ hm hm).mono fun e w' ⟨h1, q, h2⟩ => ⟨by rw [h1, decide_eq_true rfl], by rw [h2]; exact below_drewN (Below.refl _ _) _⟩
end Go.Proofs.Yteceamnmcningaa
