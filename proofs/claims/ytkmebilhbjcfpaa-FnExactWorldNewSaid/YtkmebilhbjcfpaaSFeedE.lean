/- Cases of the model of FeedValid: it changes nothing that was there. Condition: the feed lies in memory. -/
import Derived.Test.YtkmebilhbjcfpaaSFeedWhole
namespace Go.Proofs.Ytkmebilhbjcfpaa
open Go.RowKit
set_option linter.unusedVariables false





end Go.Proofs.Ytkmebilhbjcfpaa
