/- How a node and a slice of nodes that came in as arguments are opened. No conditions. -/
import Derived.Test.YtjefkpjjdloodaaListed
import Derived.WalkKit
import Derived.ProofKit
import Derived.OpenShut
import Derived.ChangeOld
import Derived.Below
import Derived.Lib.SmallJoins
import Derived.Deep.Slices
namespace Go.Proofs.Ytjefkpjjdloodaa
open Go.ChangeShapes Go.WideShapes Go.ChangeAt Go.RowKit Go.Joins
set_option linter.unusedVariables false

section
variable {H : Type} {enc : TypeId × Value → H} {w : World}
theorem cells_lisL : Try.prog.cellsOf 43 = 2 := by kernel_rfl
theorem cells_intL : Try.prog.cellsOf 3 = 1 := by kernel_rfl
theorem open_lis2 {n : Nat} {x0 x1 : Value} {y : DataW H × List MemPlace} (h : DataW.trod enc Try.prog w 0 (fun _ => true) true n 43 [x0, x1] = some y) : ∃ a : LD, x0 = .int .i64 a.n ∧ x1 = .int .i64 a.t := by
  obtain ⟨xs, m, _, _, _, hlen, hg⟩ := DataW.trod_struct Try.underlying43 h
  match xs, hlen with
  | [y0, y1], _ =>
    have g0 : DataW.trod enc Try.prog w 0 (fun _ => true) true m 3 [x0] = some y0 := by simpa [cells_intL] using hg 0 _ rfl
    have g1 : DataW.trod enc Try.prog w 0 (fun _ => true) true m 3 [x1] = some y1 := by simpa [cells_intL] using hg 1 _ rfl
    obtain ⟨p, e0, _, w0⟩ := DataW.trod_int Try.underlying3 g0
    obtain ⟨b, e1, _, w1⟩ := DataW.trod_int Try.underlying3 g1
    simp at e0 e1
    exact ⟨⟨p, b⟩, e0, e1⟩
set_option maxRecDepth 100000 in
/-- A node that came in. -/
theorem open_lisV {r : Reach} {b0 : Nat} {v : Value} {dt : DataW H} {pl : List MemPlace} (hv : Value.okWide Try.prog w r b0 43 v) (h : DataW.Trod enc Try.prog w 0 (fun _ => true) true 43 v dt pl) :
    ∃ (p b : Int), v = .agg #[.int .i64 p, .int .i64 b] := by
  obtain ⟨cs, rfl, hsz⟩ := okWide_struct Try.underlying43 hv
  obtain ⟨L⟩ := cs
  match L, hsz.trans cells_lisL with
  | [x0, x1], _ =>
    obtain ⟨fuel, hf⟩ := h
    obtain ⟨a, rfl, rfl⟩ := open_lis2 hf
    exact ⟨a.n, a.t, rfl⟩
set_option maxRecDepth 100000 in
/-- Nodes that came in. -/
theorem open_lissV {r : Reach} {b0 : Nat} {v : Value} {dt : DataW H} {pl : List MemPlace} (hv : Value.okWide Try.prog w r b0 22 v) (h : DataW.Trod enc Try.prog w 0 (fun _ => true) true 22 v dt pl) :
    ∃ (A : Option Addr) (c : Nat) (xs : List LD), v = .slice A xs.length c ∧ (RowAt LK w w.heap.size A xs ∧ xs.length ≤ maxLen) := by
  obtain ⟨a, len, cap, rfl⟩ := okWide_slice Try.underlying22 hv
  obtain ⟨fuel, hf⟩ := h
  rcases Go.Deep.open_slice Try.underlying22 hf with ⟨hcs, _⟩ | ⟨x, l, c, m, n, D, Pl, hcs, _, hl, hm, hmm, _, hi⟩
  · simp [Value.cells] at hcs
    obtain ⟨rfl, rfl, rfl⟩ := hcs
    exact ⟨none, 0, [], rfl, RowAt.nil, Nat.zero_le _⟩
  · simp [Value.cells] at hcs
    obtain ⟨rfl, rfl, rfl⟩ := hcs
    have hme : m = cap := by simpa using hmm
    subst hme
    have key : ∀ i, ∃ q : LD, i < len → w.cell? (x.add (i * 2 + 0)) = some (.int .i64 q.n) ∧ w.cell? (x.add (i * 2 + 1)) = some (.int .i64 q.t) := fun i => by
      by_cases hil : i < len
      · obtain ⟨cs', hc, ht⟩ := hi i (by omega)
        rw [cells_lisL] at hc
        obtain ⟨_, hcl, hat⟩ := World.cells?_some hc
        match cs', hcl with
        | [x0, x1], _ =>
          obtain ⟨q, rfl, rfl⟩ := open_lis2 ht
          have h0 := hat 0 (by decide)
          have h1 := hat 1 (by decide)
          rw [Go.Deep.add_add] at h0 h1
          exact ⟨q, fun _ => ⟨h0, h1⟩⟩
      · exact ⟨⟨0, 0⟩, fun k => absurd k hil⟩
    obtain ⟨Q, hQ⟩ : ∃ Q : Nat → LD, ∀ i, i < len → w.cell? (x.add (i * 2 + 0)) = some (.int .i64 (Q i).n) ∧ w.cell? (x.add (i * 2 + 1)) = some (.int .i64 (Q i).t) := ⟨fun i => Classical.choose (key i), fun i => Classical.choose_spec (key i)⟩
    refine ⟨some x, m, (List.range len).map Q, by rw [List.length_map, List.length_range], fun hn => ?_, by rw [List.length_map, List.length_range]; omega⟩
    rw [List.length_map, List.length_range] at hn
    obtain ⟨b, o, sp⟩ := x
    have h00 := (hQ 0 hn).1
    have hs := World.cell?_spot h00
    have hs0 : sp = none := by simpa [Addr.add] using hs
    subst hs0
    rw [Addr.add_lit] at h00
    refine ⟨b, o, rfl, World.block_lt_of_cell? w _ h00, fun j q hq i v hv => ?_⟩
    obtain ⟨hj, he⟩ := List.getElem?_eq_some_iff.1 hq
    rw [List.length_map, List.length_range] at hj
    rw [List.getElem_map, List.getElem_range] at he
    have hsp := hQ j hj
    rw [he, Addr.add_lit, Addr.add_lit] at hsp
    match i, hv with
    | 0, hv =>
      have hv' : v = .int .i64 q.n := by injection hv with hv; exact hv.symm
      rw [hv']
      show w.cell? ⟨b, o + j * 2 + 0, none⟩ = _
      rw [Nat.add_assoc]; exact hsp.1
    | 1, hv =>
      have hv' : v = .int .i64 q.t := by injection hv with hv; exact hv.symm
      rw [hv']
      show w.cell? ⟨b, o + j * 2 + 1, none⟩ = _
      rw [Nat.add_assoc]; exact hsp.2
    | i + 2, hv => exact absurd hv (by simp [LK])
end

end Go.Proofs.Ytjefkpjjdloodaa
