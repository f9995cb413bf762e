/- Stands for the rows of structs where the texts of trees are filled. No conditions. -/
import Derived.Test.YtkmebilhbjcfpaaGreatExactRowN
namespace Go.Proofs.YtkmebilhbjcfpaaGreat
end Go.Proofs.YtkmebilhbjcfpaaGreat
