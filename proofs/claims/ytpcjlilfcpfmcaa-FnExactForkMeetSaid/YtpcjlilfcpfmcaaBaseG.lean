/- Contracts of the library's Grow at a nil slice and Concat of two slices, at integers: their numbers one behind the other in memory of the call's own. Conditions: the lengths are at most 1000. -/
import Derived.Test.YtpcjlilfcpfmcaaBaseA
import Derived.Test.YtpcjlilfcpfmcaaBaseB
namespace Go.Proofs.Ytpcjlilfcpfmcaa
open Go.RowKit
set_option linter.unusedVariables false

theorem OwnInts.cut {w : World} {base g c : Nat} {zs : List Int} (h : OwnInts w base (some ⟨g, 0, none⟩) c zs) (k : Nat) (hk : k ≤ zs.length) : OwnInts w base (some ⟨g, 0, none⟩) c (zs.take k) := by
  have hl : (zs.take k).length = k := by rw [List.length_take]; omega
  rcases h.2 with ⟨hv, _⟩ | ⟨g', c', cur, hv, hb, hg, hn, hm, hs, ht⟩
  · injection hv with hA _ _; cases hA
  · injection hv with hA _ hc
    injection hA with hA
    injection hA with hA _ _
    subst hA hc
    refine ⟨by rw [vals_length]; omega, .inr ⟨g, c, cur, rfl, hb, hg, by omega, hm, hs, ?_⟩⟩
    rw [hl, Nat.mul_one]
    rw [Nat.mul_one] at ht
    have e : vals (zs.take k) = (vals zs).take k := by unfold vals; rw [List.map_take]
    rw [e, ← ht, List.take_take, Nat.min_eq_left hk]





end Go.Proofs.Ytpcjlilfcpfmcaa
