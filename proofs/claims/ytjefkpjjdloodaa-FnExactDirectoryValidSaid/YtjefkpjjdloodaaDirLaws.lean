/- Contracts of the laws' helpers over directories, of calls that leave what was there: restated for the laws' walks. Conditions: the lists lie in memory. -/
import Derived.Test.YtjefkpjjdloodaaSDir3
import Derived.Test.YtjefkpjjdloodaaSame
namespace Go.Proofs.Ytjefkpjjdloodaa
open Go.RowKit
set_option linter.unusedVariables false



theorem sdirValidB_any (A : Option Addr) (cap : Nat) (xs : List LD) (w : World) (hA : LisAt w w.heap.size A cap xs) {n : Nat} (hn : xs.length = n) :
    Calls Try.prog 8 #[.slice A n cap] w fun e w' => e = .returned (.bool (dirB xs)) ∧ Below w.heap.size w w' :=
  (sdirValid_any A cap xs w hA hn).mono fun e w' ⟨h1, q, h2⟩ => ⟨h1, by rw [h2]; exact below_drewN (Below.refl _ _) _⟩



end Go.Proofs.Ytjefkpjjdloodaa
