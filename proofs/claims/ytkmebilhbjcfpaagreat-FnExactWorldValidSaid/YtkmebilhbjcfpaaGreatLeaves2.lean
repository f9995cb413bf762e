/- l11Leaves hands back a slice that is not nil; the growth of few leaves is short. Conditions: the texts lie in memory and are short. -/
import Derived.Test.YtkmebilhbjcfpaaGreatBaseH
import Derived.Test.YtkmebilhbjcfpaaGreatBaseC
import Derived.Test.YtkmebilhbjcfpaaGreatBaseG
namespace Go.Proofs.YtkmebilhbjcfpaaGreat
open Go.RowKit
set_option linter.unusedVariables false

def RetSome (w : World) (zs : List Int) (e : Ending) (w' : World) : Prop :=
  ∃ b cap, e = .returned (.slice (some ⟨b, 0, none⟩) zs.length cap) ∧ OwnInts w' w.heap.size (some ⟨b, 0, none⟩) cap zs ∧ Below w.heap.size w w'

set_option maxHeartbeats 1000000 in
theorem sleaves_empty (A : Option Addr) (cap : Nat) (w : World) :
    Calls Tryz.prog 57 #[.slice A 0 cap] w (RetSome w []) := by
  go_enter Tryz.func57, Tryz.ntmps57
  go_wp2
  refine wp_loop_rounds 1 ?_
  rw [rounds_succ]
  go_wp2
  go_ret
  exact ⟨w.heap.size, 0, rfl, OwnInts.new w, (Below.refl _ _).alloc (Nat.le_refl _) _⟩
theorem sleaves_some (A : Option Addr) (cap : Nat) (bs : List ByteArray) (w : World) (hI : StrsAt w w.heap.size A bs) (hf : Short bs) (hm : bs.length ≤ 1048576) :
    Calls Tryz.prog 57 #[.slice A bs.length cap] w (RetSome w (leafL bs)) := by
  by_cases h : bs.length = 0
  · have e := List.eq_nil_of_length_eq_zero h
    subst e
    exact sleaves_empty A cap w
  · refine (sleaves_any A cap bs w hI hf hm).mono ?_
    rintro e w' ⟨X, c, rfl, ho, hb⟩
    obtain ⟨b, hX⟩ := OwnInts.some_ ho (by rw [leafL_length]; omega)
    subst hX
    exact ⟨b, c, rfl, ho, hb⟩
theorem growthOr_34 (zs : List Int) (m : Int) : (growthOr zs m).length ≤ 34 := by
  unfold growthOr
  split
  · unfold growthZ growthG
    have h1 := cover_short (zs.take m.toNat) 0
    have h2 := cover_short zs m.toNat
    unfold coverZ at h1 h2
    rw [List.length_append]
    omega
  · simp

end Go.Proofs.YtkmebilhbjcfpaaGreat
