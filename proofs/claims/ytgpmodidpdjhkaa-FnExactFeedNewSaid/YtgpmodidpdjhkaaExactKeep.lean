/- How rows of the call's own, of integers and of bools, are kept while another row is written: for the walks of exact laws. No conditions. -/
import Derived.Test.YtgpmodidpdjhkaaExactInts
import Derived.Test.YtgpmodidpdjhkaaExactBools
namespace Go.Proofs.Ytgpmodidpdjhkaa
open Go.RowKit
set_option linter.unusedVariables false

theorem deci_same (l : List Int) : decide (l = l) = true := by simp
theorem decb_same (l : List Bool) : decide (l = l) = true := by simp
theorem own_ne {w w' : World} {base : Nat} {A : Option Addr} {cap : Nat} {zs : List Int} (h : OwnInts w base A cap zs) {b : Nat} (hg : w.grownBy w' (some b)) (hne : ∀ g, A = some ⟨g, 0, none⟩ → g ≠ b) : OwnInts w' base A cap zs := by
  refine World.ownsRow.kept h hg ?_
  rcases h.2 with ⟨hv, _⟩ | ⟨g, c, cur, hv, hb, _⟩
  · left; rw [hv]; rfl
  · right
    have hA : A = some ⟨g, 0, none⟩ := by injection hv
    rw [hv]
    intro e
    exact hne g hA (by simpa [Value.ownBlock] using e)
theorem own_lt {w : World} {base : Nat} {A : Option Addr} {cap : Nat} {zs : List Int} (h : OwnInts w base A cap zs) : ∀ g, A = some ⟨g, 0, none⟩ → base ≤ g ∧ g < w.heap.size := by
  intro g hA
  subst hA
  exact World.ownsRow.lt h g rfl
theorem ownb_ne {w w' : World} {base : Nat} {A : Option Addr} {cap : Nat} {zs : List Bool} (h : OwnBools w base A cap zs) {b : Nat} (hg : w.grownBy w' (some b)) (hne : ∀ g, A = some ⟨g, 0, none⟩ → g ≠ b) : OwnBools w' base A cap zs := by
  refine World.ownsRow.kept h hg ?_
  rcases h.2 with ⟨hv, _⟩ | ⟨g, c, cur, hv, hb, _⟩
  · left; rw [hv]; rfl
  · right
    have hA : A = some ⟨g, 0, none⟩ := by injection hv
    rw [hv]
    intro e
    exact hne g hA (by simpa [Value.ownBlock] using e)
theorem ownb_lt {w : World} {base : Nat} {A : Option Addr} {cap : Nat} {zs : List Bool} (h : OwnBools w base A cap zs) : ∀ g, A = some ⟨g, 0, none⟩ → base ≤ g ∧ g < w.heap.size := by
  intro g hA
  subst hA
  exact World.ownsRow.lt h g rfl
/-- Where a row of the call's own lies: nowhere (it is nil), or at the head of a block. -/
theorem own_form {w : World} {base : Nat} {A : Option Addr} {cap : Nat} {zs : List Int} (h : OwnInts w base A cap zs) : A = none ∨ ∃ g, A = some ⟨g, 0, none⟩ := by
  rcases h.2 with ⟨hv, _⟩ | ⟨g, c, cur, hv, _⟩
  · injection hv with hA _ _; exact .inl hA
  · injection hv with hA _ _; exact .inr ⟨g, hA⟩
theorem ownb_form {w : World} {base : Nat} {A : Option Addr} {cap : Nat} {zs : List Bool} (h : OwnBools w base A cap zs) : A = none ∨ ∃ g, A = some ⟨g, 0, none⟩ := by
  rcases h.2 with ⟨hv, _⟩ | ⟨g, c, cur, hv, _⟩
  · injection hv with hA _ _; exact .inl hA
  · injection hv with hA _ _; exact .inr ⟨g, hA⟩
/-- What marking a row leaves, told as one fact: whatever block is not the row's lies as it lay. -/
theorem marked_other {w w' : World} {base : Nat} {A : Option Addr} {cap n : Nat} {zs : List Int} {e : Ending} (h : OwnInts w base A cap zs) (hm : Marked w base A cap n e w') : Below base w w' ∧ (∀ i, i < w.heap.size → (∀ g, A = some ⟨g, 0, none⟩ → i ≠ g) → w'.heap[i]? = w.heap[i]?) := by
  obtain ⟨_, _, hg, hn⟩ := hm
  rcases own_form h with hA | ⟨g, hA⟩
  · have e := hn hA
    subst e
    exact ⟨Below.refl _ _, fun i _ _ => rfl⟩
  · have hgg := hg g hA
    have hlt := own_lt h g hA
    exact ⟨(Below.refl _ _).grown hgg (by omega) (fun k hk => by injection hk with hk; omega), fun i hi hne => hgg.block i hi (fun e => hne g hA (by injection e))⟩
theorem markedb_other {w w' : World} {base : Nat} {A : Option Addr} {cap k0 n : Nat} {zs : List Bool} {e : Ending} (h : OwnBools w base A cap zs) (hm : MarkedB w base A cap k0 n e w') : Below base w w' ∧ (∀ i, i < w.heap.size → (∀ g, A = some ⟨g, 0, none⟩ → i ≠ g) → w'.heap[i]? = w.heap[i]?) := by
  obtain ⟨_, _, hg, hn⟩ := hm
  rcases ownb_form h with hA | ⟨g, hA⟩
  · have e := hn hA
    subst e
    exact ⟨Below.refl _ _, fun i _ _ => rfl⟩
  · have hgg := hg g hA
    have hlt := ownb_lt h g hA
    exact ⟨(Below.refl _ _).grown hgg (by omega) (fun k hk => by injection hk with hk; omega), fun i hi hne => hgg.block i hi (fun e => hne g hA (by injection e))⟩
/-- A row is there wherever its block lies as it lay. -/
theorem own_block {w w' : World} {base : Nat} {A : Option Addr} {cap : Nat} {zs : List Int} (h : OwnInts w base A cap zs) (hk : ∀ g, A = some ⟨g, 0, none⟩ → w'.heap[g]? = w.heap[g]?) : OwnInts w' base A cap zs := by
  refine ⟨h.1, ?_⟩
  rcases h.2 with h0 | ⟨g, c, cur, hv, hg, hgb, hr⟩
  · exact .inl h0
  · have hA : A = some ⟨g, 0, none⟩ := by injection hv
    exact .inr ⟨g, c, cur, hv, hg, (hk g hA).trans hgb, hr⟩
theorem ownb_block {w w' : World} {base : Nat} {A : Option Addr} {cap : Nat} {zs : List Bool} (h : OwnBools w base A cap zs) (hk : ∀ g, A = some ⟨g, 0, none⟩ → w'.heap[g]? = w.heap[g]?) : OwnBools w' base A cap zs := by
  refine ⟨h.1, ?_⟩
  rcases h.2 with h0 | ⟨g, c, cur, hv, hg, hgb, hr⟩
  · exact .inl h0
  · have hA : A = some ⟨g, 0, none⟩ := by injection hv
    exact .inr ⟨g, c, cur, hv, hg, (hk g hA).trans hgb, hr⟩
/-- Rows whose bases part: the elder is kept while the younger is written. -/
theorem own_older {w w' : World} {b0 b1 : Nat} {A : Option Addr} {cap : Nat} {zs : List Int} (h : OwnInts w b0 A cap zs) (hlt : ∀ g, A = some ⟨g, 0, none⟩ → g < b1) (hb : Below b1 w w') : OwnInts w' b0 A cap zs :=
  own_block h fun g hA => hb.block g (hlt g hA)
theorem ownb_older {w w' : World} {b0 b1 : Nat} {A : Option Addr} {cap : Nat} {zs : List Bool} (h : OwnBools w b0 A cap zs) (hlt : ∀ g, A = some ⟨g, 0, none⟩ → g < b1) (hb : Below b1 w w') : OwnBools w' b0 A cap zs :=
  ownb_block h fun g hA => hb.block g (hlt g hA)

theorem markb_one (base : Nat) (A : Option Addr) (cap : Nat) (zs : List Bool) (w : World) (hO : OwnBools w base A cap zs) (hm : zs.length ≤ 1048576) :
    Calls Try.prog 74 #[.slice A zs.length cap, .int .i64 1] w (MarkedB w base A cap 1 zs.length) := markb_any base A cap 1 zs w hO hm (by omega)

end Go.Proofs.Ytgpmodidpdjhkaa
