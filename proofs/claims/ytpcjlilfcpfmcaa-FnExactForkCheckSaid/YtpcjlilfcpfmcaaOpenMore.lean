/- How a proof of a fork, a head, a text or a slice of integers that came in as an argument is opened. No conditions. -/
import Derived.Test.YtpcjlilfcpfmcaaOpenFeed
import Derived.Test.YtpcjlilfcpfmcaaFork
namespace Go.Proofs.Ytpcjlilfcpfmcaa
open Go.ChangeShapes Go.WideShapes Go.ChangeAt Go.RowKit Go.Joins
set_option linter.unusedVariables false

section
variable {H : Type} {enc : TypeId × Value → H} {w : World}

set_option maxRecDepth 100000 in
/-- A head that came in. -/
theorem open_headV {r : Reach} {b0 : Nat} {v : Value} {dt : DataW H} {pl : List MemPlace} (hv : Value.okWide Try.prog w r b0 40 v) (h : DataW.Trod enc Try.prog w 0 (fun _ => true) true 40 v dt pl) :
    ∃ (l d s : Int), v = .agg #[.int .i64 l, .int .i64 d, .int .i64 s] ∧ ((Lit.int .i64 l).wf = true ∧ (Lit.int .i64 d).wf = true ∧ (Lit.int .i64 s).wf = true) := by
  obtain ⟨cs, rfl, hsz⟩ := okWide_struct Try.underlying40 hv
  obtain ⟨L⟩ := cs
  match L, hsz.trans cells_head with
  | [x0, x1, x2], _ =>
    obtain ⟨fuel, hf⟩ := h
    obtain ⟨l, d, s, rfl, rfl, rfl, w0, w1, w2⟩ := open_head3 hf
    exact ⟨l, d, s, rfl, w0, w1, w2⟩

theorem cells_forkT : Try.prog.cellsOf 42 = 7 := by kernel_rfl

set_option maxRecDepth 100000 in
theorem open_forkV {r : Reach} {b0 : Nat} {v : Value} {dt : DataW H} {pl : List MemPlace} (hv : Value.okWide Try.prog w r b0 42 v) (h : DataW.Trod enc Try.prog w 0 (fun _ => true) true 42 v dt pl) :
    ∃ (p a b c x y z : Int), v = forkV p a b c x y z := by
  obtain ⟨cs, rfl, hsz⟩ := okWide_struct Try.underlying42 hv
  obtain ⟨L⟩ := cs
  match L, hsz.trans cells_forkT with
  | [x0, x1, x2, x3, x4, x5, x6], _ =>
    obtain ⟨fuel, hf⟩ := h
    obtain ⟨xs, n, _, hx, _, hlen, hg⟩ := DataW.trod_struct Try.underlying42 hf
    match xs, hlen with
    | [y0, y1, y2], _ =>
      have g0 : DataW.trod enc Try.prog w 0 (fun _ => true) true n 3 [x0] = some y0 := by simpa [Value.cells, cells_int] using hg 0 _ rfl
      have g1 : DataW.trod enc Try.prog w 0 (fun _ => true) true n 40 [x1, x2, x3] = some y1 := by simpa [Value.cells, cells_head] using hg 1 _ rfl
      have g2 : DataW.trod enc Try.prog w 0 (fun _ => true) true n 40 [x4, x5, x6] = some y2 := by simpa [Value.cells, cells_head] using hg 2 _ rfl
      obtain ⟨p, e0, _, w0⟩ := DataW.trod_int Try.underlying3 g0
      simp at e0
      obtain ⟨a, b, c, rfl, rfl, rfl, _⟩ := open_head3 g1
      obtain ⟨x, y, z, rfl, rfl, rfl, _⟩ := open_head3 g2
      subst e0
      exact ⟨p, a, b, c, x, y, z, rfl⟩
end

end Go.Proofs.Ytpcjlilfcpfmcaa
