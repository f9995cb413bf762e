/- How a head and a slice of integers that came in as arguments are opened (not beside OpenMore). No conditions. -/
import Derived.Test.YtgklkceoafohmaaDoorOpenFeed
import Derived.Test.YtgklkceoafohmaaDoorBaseE
import Derived.Test.YtgklkceoafohmaaDoorGrowthAt
import Derived.Test.YtgklkceoafohmaaDoorBaseD
namespace Go.Proofs.YtgklkceoafohmaaDoor
open Go.ChangeShapes Go.WideShapes Go.ChangeAt Go.RowKit Go.Joins
set_option linter.unusedVariables false

section
variable {H : Type} {enc : TypeId × Value → H} {w : World}

set_option maxRecDepth 100000 in
/-- A head that came in. -/
theorem open_headV {r : Reach} {b0 : Nat} {v : Value} {dt : DataW H} {pl : List MemPlace} (hv : Value.okWide Tryd.prog w r b0 43 v) (h : DataW.Trod enc Tryd.prog w 0 (fun _ => true) true 43 v dt pl) :
    ∃ (l d s : Int), v = .agg #[.int .i64 l, .int .i64 d, .int .i64 s] ∧ ((Lit.int .i64 l).wf = true ∧ (Lit.int .i64 d).wf = true ∧ (Lit.int .i64 s).wf = true) := by
  obtain ⟨cs, rfl, hsz⟩ := okWide_struct Tryd.underlying43 hv
  obtain ⟨L⟩ := cs
  match L, hsz.trans cells_head with
  | [x0, x1, x2], _ =>
    obtain ⟨fuel, hf⟩ := h
    obtain ⟨l, d, s, rfl, rfl, rfl, w0, w1, w2⟩ := open_head3 hf
    exact ⟨l, d, s, rfl, w0, w1, w2⟩

set_option maxRecDepth 100000 in
theorem open_intsV {r : Reach} {b0 : Nat} {v : Value} {dt : DataW H} {pl : List MemPlace} (hv : Value.okWide Tryd.prog w r b0 29 v) (h : DataW.Trod enc Tryd.prog w 0 (fun _ => true) true 29 v dt pl) :
    ∃ (A : Option Addr) (c : Nat) (zs : List Int), v = .slice A zs.length c ∧ GrowthAt w A c zs := by
  obtain ⟨a, len, cap, rfl⟩ := okWide_slice Tryd.underlying29 hv
  have w0 : ∃ zs, IsRow .i64 w a len cap zs := by
    obtain ⟨fuel, hf⟩ := h
    rcases open_ints Tryd.underlying29 Tryd.underlying3 (by kernel_rfl) hf with ⟨hcs, _⟩ | ⟨x, l, c, zs, hcs, _, hl, hm, hz, _, hcell, hwz⟩
    · simp [Value.cells] at hcs
      obtain ⟨rfl, rfl, rfl⟩ := hcs
      exact ⟨[], .inl ⟨rfl, rfl, rfl, rfl⟩⟩
    · simp [Value.cells] at hcs
      obtain ⟨rfl, rfl, rfl⟩ := hcs
      exact ⟨zs, .inr ⟨_, rfl, hl, hm, by simpa using hz, hcell, hwz⟩⟩
  obtain ⟨zs, h0⟩ := w0
  obtain ⟨h1, h2, h3⟩ := ints_of_row h0
  have h4 : len ≤ cap ∧ cap ≤ maxLen := by
    rcases h0 with ⟨_, rfl, rfl, _⟩ | ⟨x, _, hl, hm, _⟩
    · exact ⟨Nat.le_refl _, Nat.zero_le _⟩
    · exact ⟨hl, hm⟩
  exact ⟨a, cap, zs.take len, by rw [h2], h1, by rw [h2]; exact h4.1, h4.2⟩
end

end Go.Proofs.YtgklkceoafohmaaDoor
