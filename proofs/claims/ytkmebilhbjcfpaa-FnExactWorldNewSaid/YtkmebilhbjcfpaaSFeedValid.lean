/- Contract of the model of FeedValid: it reports whether a feed is valid, and changes nothing that was there. Condition: the feed lies in memory. -/
import Derived.Test.YtkmebilhbjcfpaaBaseI
import Derived.Test.YtkmebilhbjcfpaaBaseJ
import Derived.Test.YtkmebilhbjcfpaaSFeedE
namespace Go.Proofs.Ytkmebilhbjcfpaa
open Go.RowKit
set_option linter.unusedVariables false



end Go.Proofs.Ytkmebilhbjcfpaa
