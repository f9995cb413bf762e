/- Contract of the model's l51Same: it reports whether two slices read as the same list; it changes nothing. Condition: both lie in memory. -/
import Derived.Test.YtkmebilhbjcfpaaSame
import Derived.Deep.QuietTactic
import Derived.BigQuiet
namespace Go.Proofs.Ytkmebilhbjcfpaa
open Go.RowKit
set_option linter.unusedVariables false



end Go.Proofs.Ytkmebilhbjcfpaa
