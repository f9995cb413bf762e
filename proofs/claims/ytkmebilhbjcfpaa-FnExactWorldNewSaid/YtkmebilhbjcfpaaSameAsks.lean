/- Contract of the laws' function sameAsks at two lists that read alike: true. Condition: both lie in memory. -/
import Derived.Test.YtkmebilhbjcfpaaAsks
import Derived.Test.YtkmebilhbjcfpaaBaseA
import Derived.Deep.QuietTactic
import Derived.BigQuiet
import Derived.Lib.Hide
namespace Go.Proofs.Ytkmebilhbjcfpaa
open Go.RowKit
set_option linter.unusedVariables false

set_option maxHeartbeats 4000000 in
set_option maxRecDepth 100000 in
theorem runAsks_any (A : Option Addr) (c : Nat) (A1 : Option Addr) (c1 : Nat) (xs : List AD) (w : World) (hJ : AsksAt w w.heap.size A c xs) (hJ1 : AsksAt w w.heap.size A1 c1 xs) {n : Nat} (hn : xs.length = n) :
    Calls Try.prog 24 #[.slice A n c, .slice A1 n c1] w fun e w' => e = .returned (.bool true) ∧ Below w.heap.size w w' := by
  have hmx := hJ.most
  have hle := hJ.le
  unfold maxLen at hmx
  rw [hn] at hle
  have HN := Lib.hid hn
  have HJ := Lib.hid hJ
  have HJ1 := Lib.hid hJ1
  clear hJ hJ1 hn
  go_enter Try.func24, Try.ntmps24
  go_wp2
  go_loopw [5] (fun i w' => ∃ k : Nat, k ≤ n ∧ i = .int .i64 k ∧ ∃ q, w' = w.drewN q) (fun i _ => n - (intOf i).toNat)
  case atStart => exact ⟨0, Nat.zero_le _, rfl, 0, rfl⟩
  case round =>
    obtain ⟨k, hk, rfl, q, rfl⟩ := hrel
    by_cases hlt : k < n
    · have hkz : k < xs.length := by rw [HN.out]; exact hlt
      obtain ⟨b, o, rfl⟩ := HJ.out.row.some_ (by omega)
      obtain ⟨b', o', rfl⟩ := HJ1.out.row.some_ (by omega)
      obtain ⟨c0, d0⟩ := ask_cells HJ.out.row k hkz
      obtain ⟨c0', d0'⟩ := ask_cells HJ1.out.row k hkz
      obtain ⟨ri, HRI⟩ : ∃ x, Hid ((ath xs k).p = x) := ⟨_, rfl⟩
      obtain ⟨rt, HRT⟩ : ∃ x, Hid ((ath xs k).b = x) := ⟨_, rfl⟩
      rw [HRI.out] at c0 c0'
      rw [HRT.out] at d0 d0'
      have hk0 : (0 : Int) ≤ (k : Int) := by omega
      have hki : (k : Int) < (n : Int) := by omega
      clear hkz
      go_wp2_with fail
      go_quiet (fail)
      go_wp2
      go_roundw
      case rel => exact ⟨k + 1, by omega, by go_num, _, rfl⟩
      case measure => simp [intOf]; omega
    · go_wp2
      go_ret
      exact ⟨rfl, below_drewN (Below.refl _ _) _⟩
end Go.Proofs.Ytkmebilhbjcfpaa
