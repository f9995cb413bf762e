/- Contracts of message, inRange, HeadCheck and their models: whether a head is signed. No conditions but those that each contract says. -/
import Derived.Test.YtgpmodidpdjhkaaPublic
import Derived.BigQuiet
import Derived.Deep.QuietTactic
import Derived.Deep.RegionHeld3
import Derived.IntWalk
namespace Go.Proofs.Ytgpmodidpdjhkaa
open Go.RowKit
set_option linter.unusedVariables false

theorem bcell {W w1 : World} (hb : Below W.heap.size W w1) : (∀ b o, b < W.heap.size → w1.cell? ⟨b, o, none⟩ = W.cell? ⟨b, o, none⟩) ∧ (∀ b o, b < W.heap.size → w1.frozen? ⟨b, o, none⟩ = W.frozen? ⟨b, o, none⟩) :=
  ⟨fun b o h => hb.cell (p := ⟨b, o, none⟩) h, fun b o h => hb.frozen (p := ⟨b, o, none⟩) h⟩

set_option maxHeartbeats 800000 in
theorem message_any (d n s : Int) (w : World) (h0 : 0 ≤ n) (h1 : n ≤ 16) (h2 : 0 ≤ d) (h3 : d < 991) :
    Calls Try.prog 84 #[.agg #[.int .i64 d, .int .i64 n, .int .i64 s]] w fun e w' => e = .returned (.int .i64 (msgZ n d)) ∧ Below w.heap.size w w' := by
  obtain ⟨b0, b1⟩ := pairZ_bd n d
  go_enter Try.func84, Try.ntmps84
  go_wp2_with fail
  refine (with_any _ _ _ (by omega) (by omega) (by omega) (by omega)).mono ?_
  rintro e w' ⟨rfl, rfl⟩
  go_wp2
  go_ret
  exact ⟨rfl, (Below.refl _ _).alloc (Nat.le_refl _) _⟩

set_option maxHeartbeats 800000 in
theorem range_yes (d n s : Int) (w : World) (h0 : 0 ≤ n) (h1 : n ≤ 16) (h2 : 0 ≤ d) (h3 : d < 991) (h4 : 1 ≤ s) (h5 : s < 997) :
    Calls Try.prog 82 #[.agg #[.int .i64 d, .int .i64 n, .int .i64 s]] w fun e w' => e = .returned (.bool true) ∧ Below w.heap.size w w' := by
  go_enter Try.func82, Try.ntmps82
  go_wp2_with fail
  refine (valid_yes _ _ h2 h3).mono ?_
  rintro e w' ⟨rfl, rfl⟩
  go_wp2_with fail
  refine (key_yes _ _ h4 h5).mono ?_
  rintro e w' ⟨rfl, rfl⟩
  go_wp2
  go_ret
  exact ⟨rfl, (Below.refl _ _).alloc (Nat.le_refl _) _⟩

set_option maxHeartbeats 1600000 in
theorem range_no (d n s : Int) (w : World) (h : ¬ ((0 ≤ n ∧ n ≤ 16) ∧ (0 ≤ d ∧ d < 991) ∧ (1 ≤ s ∧ s < 997))) :
    Calls Try.prog 82 #[.agg #[.int .i64 d, .int .i64 n, .int .i64 s]] w fun e w' => e = .returned (.bool false) ∧ Below w.heap.size w w' := by
  by_cases h0 : 0 ≤ n
  · by_cases h1 : n ≤ 16
    · by_cases h2 : 0 ≤ d ∧ d < 991
      · have H3 : Hid (¬ (1 ≤ s ∧ s < 997)) := fun k => h ⟨⟨h0, h1⟩, h2, k⟩
        obtain ⟨d0, d1⟩ := h2
        clear h
        go_enter Try.func82, Try.ntmps82
        go_wp2_with fail
        refine (valid_yes _ _ d0 d1).mono ?_
        rintro e w' ⟨rfl, rfl⟩
        go_wp2_with fail
        refine (key_no _ _ H3.out).mono ?_
        rintro e w' ⟨rfl, rfl⟩
        go_wp2
        go_ret
        exact ⟨rfl, (Below.refl _ _).alloc (Nat.le_refl _) _⟩
      · have H2 := Lib.hid h2
        clear h h2
        go_enter Try.func82, Try.ntmps82
        go_wp2_with fail
        refine (valid_no _ _ H2.out).mono ?_
        rintro e w' ⟨rfl, rfl⟩
        go_wp2
        go_ret
        exact ⟨rfl, (Below.refl _ _).alloc (Nat.le_refl _) _⟩
    · clear h
      go_enter Try.func82, Try.ntmps82
      go_wp2
      go_ret
      exact ⟨rfl, (Below.refl _ _).alloc (Nat.le_refl _) _⟩
  · clear h
    go_enter Try.func82, Try.ntmps82
    go_wp2
    go_ret
    exact ⟨rfl, (Below.refl _ _).alloc (Nat.le_refl _) _⟩

end Go.Proofs.Ytgpmodidpdjhkaa
