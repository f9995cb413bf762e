/- Contracts of BitsWants and of its model: the places that are set in one list and not in another, or none if one of both has more than 16 bits; nothing that was there is changed. Condition: the bits lie in memory. -/
import Derived.Test.YtmepbogfdpmfaaaBitsCount
namespace Go.Proofs.Ytmepbogfdpmfaaa
open Go.RowKit
set_option linter.unusedVariables false

/-- Are there at most 16? -/
def fits (len : Nat) : Bool := decide (len ≤ 16)
theorem fits_yes {len : Nat} (h : len ≤ 16) : fits len = true := by simp [fits, h]
theorem fits_no {len : Nat} (h : 16 < len) : fits len = false := by simp [fits]; omega

theorem bitsValid_any (A : Option Addr) (len cap : Nat) (w : World) :
    Calls Try.prog 28 #[.slice A len cap] w fun e w' => e = .returned (.bool (fits len)) ∧ w = w' := by
  by_cases h : len ≤ 16
  · rw [fits_yes h]; exact bitsValid_yes A len cap w h
  · rw [fits_no (by omega)]; exact bitsValid_no A len cap w (by omega)

theorem bth_beyond {bs : List Bool} {k : Nat} (h : bs.length ≤ k) : bth bs k = false := by
  rw [bth, List.getD_eq_getElem?_getD, List.getElem?_eq_none h]; rfl





/-- The places among the first k that are set in a and not in b. -/
def wantsK (a b : List Bool) : Nat → List Int
  | 0 => []
  | k + 1 => wantsK a b k ++ (if bth a k && !bth b k then [(k : Int)] else [])
theorem wantsK_yes {a b : List Bool} {k : Nat} (ha : bth a k = true) (hb : bth b k = false) : wantsK a b (k + 1) = wantsK a b k ++ [(k : Int)] := by simp [wantsK, ha, hb]
theorem wantsK_not {a b : List Bool} {k : Nat} (ha : bth a k = false) : wantsK a b (k + 1) = wantsK a b k := by simp [wantsK, ha]
theorem wantsK_has {a b : List Bool} {k : Nat} (hb : bth b k = true) : wantsK a b (k + 1) = wantsK a b k := by simp [wantsK, hb]
theorem wantsK_length (a b : List Bool) : ∀ k, (wantsK a b k).length ≤ k
  | 0 => Nat.le_refl _
  | k + 1 => by
    have := wantsK_length a b k
    rw [wantsK, List.length_append]
    split <;> simp <;> omega
/-- What BitsWants answers. -/
def wantsOr (a b : List Bool) : List Int := if a.length ≤ 16 ∧ b.length ≤ 16 then wantsK a b a.length else []
theorem wantsOr_yes {a b : List Bool} (ha : a.length ≤ 16) (hb : b.length ≤ 16) : wantsOr a b = wantsK a b a.length := if_pos ⟨ha, hb⟩
theorem wantsOr_no {a b : List Bool} (h : ¬ (a.length ≤ 16 ∧ b.length ≤ 16)) : wantsOr a b = [] := if_neg h
theorem wantsOr_short (a b : List Bool) : (wantsOr a b).length ≤ 16 := by
  unfold wantsOr
  split
  · have := wantsK_length a b a.length; omega
  · simp

/-- Where the list of places stands. -/
structure Wanting (w : World) (zs : List Int) (X : Option Addr) (c : Nat) (w' : World) : Prop where
  own : OwnInts w' w.heap.size X c zs
  below : Below w.heap.size w w'
theorem Wanting.app {w w1 w2 : World} {zs ys : List Int} {X : Option Addr} {c : Nat} {v : Value} (h : Wanting w zs X c w1) (o : Obj) (hA : Appended (w1.alloc o) w.heap.size X zs.length c ys v w2) : ∃ X' c', v = .slice X' ys.length c' ∧ Wanting w ys X' c' w2 := by
  obtain ⟨⟨X', c', hv, ho⟩, hg, hb⟩ := hA
  exact ⟨X', c', hv, ho, (h.below.alloc h.below.size o).trans hb⟩













end Go.Proofs.Ytmepbogfdpmfaaa
