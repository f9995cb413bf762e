/- Stands for the rows of structs where the texts of trees are filled. No conditions. -/
import Derived.Test.YtkmebilhbjcfpaaExactRowN
namespace Go.Proofs.Ytkmebilhbjcfpaa
end Go.Proofs.Ytkmebilhbjcfpaa
