/- How a slice of proofs of forks that came in as an argument is opened. No conditions. -/
import Derived.Test.YtkicfneikbiklaaNamedRows
import Derived.WalkKit
import Derived.ProofKit
import Derived.OpenShut
import Derived.ChangeOld
import Derived.Below
import Derived.Lib.SmallJoins
import Derived.Deep.Slices
namespace Go.Proofs.Ytkicfneikbiklaa
open Go.ChangeShapes Go.WideShapes Go.ChangeAt Go.RowKit Go.Joins
set_option linter.unusedVariables false

section
variable {H : Type} {enc : TypeId × Value → H} {w : World}
theorem cells_intK : Try.prog.cellsOf 3 = 1 := by kernel_rfl
theorem cells_headK : Try.prog.cellsOf 55 = 3 := by kernel_rfl
theorem cells_forkK : Try.prog.cellsOf 57 = 7 := by kernel_rfl
theorem open_headK {n : Nat} {x0 x1 x2 : Value} {y : DataW H × List MemPlace} (h : DataW.trod enc Try.prog w 0 (fun _ => true) true n 55 [x0, x1, x2] = some y) : ∃ l d s : Int, x0 = .int .i64 l ∧ x1 = .int .i64 d ∧ x2 = .int .i64 s ∧ (Lit.int .i64 l).wf = true ∧ (Lit.int .i64 d).wf = true ∧ (Lit.int .i64 s).wf = true := by
  obtain ⟨xs, m, _, _, _, hlen, hg⟩ := DataW.trod_struct Try.underlying55 h
  match xs, hlen with
  | [y0, y1, y2], _ =>
    have g0 : DataW.trod enc Try.prog w 0 (fun _ => true) true m 3 [x0] = some y0 := by simpa [cells_intK] using hg 0 _ rfl
    have g1 : DataW.trod enc Try.prog w 0 (fun _ => true) true m 3 [x1] = some y1 := by simpa [cells_intK] using hg 1 _ rfl
    have g2 : DataW.trod enc Try.prog w 0 (fun _ => true) true m 3 [x2] = some y2 := by simpa [cells_intK] using hg 2 _ rfl
    obtain ⟨l, e0, _, w0⟩ := DataW.trod_int Try.underlying3 g0
    obtain ⟨d, e1, _, w1⟩ := DataW.trod_int Try.underlying3 g1
    obtain ⟨s, e2, _, w2⟩ := DataW.trod_int Try.underlying3 g2
    simp at e0 e1 e2
    exact ⟨l, d, s, e0, e1, e2, w0, w1, w2⟩
theorem open_fork7 {n : Nat} {x0 x1 x2 x3 x4 x5 x6 : Value} {y : DataW H × List MemPlace} (h : DataW.trod enc Try.prog w 0 (fun _ => true) true n 57 [x0, x1, x2, x3, x4, x5, x6] = some y) : ∃ q : KD, x0 = .int .i64 q.p ∧ x1 = .int .i64 q.a ∧ x2 = .int .i64 q.b ∧ x3 = .int .i64 q.c ∧ x4 = .int .i64 q.x ∧ x5 = .int .i64 q.y ∧ x6 = .int .i64 q.z := by
  obtain ⟨xs, m, _, _, _, hlen, hg⟩ := DataW.trod_struct Try.underlying57 h
  match xs, hlen with
  | [y0, y1, y2], _ =>
    have g0 : DataW.trod enc Try.prog w 0 (fun _ => true) true m 3 [x0] = some y0 := by simpa [cells_intK] using hg 0 _ rfl
    have g1 : DataW.trod enc Try.prog w 0 (fun _ => true) true m 55 [x1, x2, x3] = some y1 := by simpa [cells_intK, cells_headK] using hg 1 _ rfl
    have g2 : DataW.trod enc Try.prog w 0 (fun _ => true) true m 55 [x4, x5, x6] = some y2 := by simpa [cells_intK, cells_headK] using hg 2 _ rfl
    obtain ⟨p, e0, _, w0⟩ := DataW.trod_int Try.underlying3 g0
    simp at e0
    obtain ⟨a, b, c, e1, e2, e3, _⟩ := open_headK g1
    obtain ⟨x, y, z, e4, e5, e6, _⟩ := open_headK g2
    exact ⟨⟨p, a, b, c, x, y, z⟩, e0, e1, e2, e3, e4, e5, e6⟩
set_option maxRecDepth 100000 in
/-- Proofs of forks that came in. -/
theorem open_forksV {r : Reach} {b0 : Nat} {v : Value} {dt : DataW H} {pl : List MemPlace} (hv : Value.okWide Try.prog w r b0 37 v) (h : DataW.Trod enc Try.prog w 0 (fun _ => true) true 37 v dt pl) :
    ∃ (A : Option Addr) (c : Nat) (xs : List KD), v = .slice A xs.length c ∧ (RowAt KK w w.heap.size A xs ∧ xs.length ≤ maxLen) := by
  obtain ⟨a, len, cap, rfl⟩ := okWide_slice Try.underlying37 hv
  obtain ⟨fuel, hf⟩ := h
  rcases Go.Deep.open_slice Try.underlying37 hf with ⟨hcs, _⟩ | ⟨x, l, c, m, n, D, Pl, hcs, _, hl, hm, hmm, _, hi⟩
  · simp [Value.cells] at hcs
    obtain ⟨rfl, rfl, rfl⟩ := hcs
    exact ⟨none, 0, [], rfl, RowAt.nil, Nat.zero_le _⟩
  · simp [Value.cells] at hcs
    obtain ⟨rfl, rfl, rfl⟩ := hcs
    have hme : m = cap := by simpa using hmm
    subst hme
    have key : ∀ i, ∃ q : KD, i < len → w.cell? (x.add (i * 7 + 0)) = some (.int .i64 q.p) ∧ w.cell? (x.add (i * 7 + 1)) = some (.int .i64 q.a) ∧ w.cell? (x.add (i * 7 + 2)) = some (.int .i64 q.b) ∧ w.cell? (x.add (i * 7 + 3)) = some (.int .i64 q.c) ∧ w.cell? (x.add (i * 7 + 4)) = some (.int .i64 q.x) ∧ w.cell? (x.add (i * 7 + 5)) = some (.int .i64 q.y) ∧ w.cell? (x.add (i * 7 + 6)) = some (.int .i64 q.z) := fun i => by
      by_cases hil : i < len
      · obtain ⟨cs', hc, ht⟩ := hi i (by omega)
        rw [cells_forkK] at hc
        obtain ⟨_, hcl, hat⟩ := World.cells?_some hc
        match cs', hcl with
        | [x0, x1, x2, x3, x4, x5, x6], _ =>
          obtain ⟨q, rfl, rfl, rfl, rfl, rfl, rfl, rfl⟩ := open_fork7 ht
          have h0 := hat 0 (by decide)
          have h1 := hat 1 (by decide)
          have h2 := hat 2 (by decide)
          have h3 := hat 3 (by decide)
          have h4 := hat 4 (by decide)
          have h5 := hat 5 (by decide)
          have h6 := hat 6 (by decide)
          rw [Go.Deep.add_add] at h0 h1 h2 h3 h4 h5 h6
          exact ⟨q, fun _ => ⟨h0, h1, h2, h3, h4, h5, h6⟩⟩
      · exact ⟨⟨0, 0, 0, 0, 0, 0, 0⟩, fun k => absurd k hil⟩
    obtain ⟨Q, hQ⟩ : ∃ Q : Nat → KD, ∀ i, i < len → w.cell? (x.add (i * 7 + 0)) = some (.int .i64 (Q i).p) ∧ w.cell? (x.add (i * 7 + 1)) = some (.int .i64 (Q i).a) ∧ w.cell? (x.add (i * 7 + 2)) = some (.int .i64 (Q i).b) ∧ w.cell? (x.add (i * 7 + 3)) = some (.int .i64 (Q i).c) ∧ w.cell? (x.add (i * 7 + 4)) = some (.int .i64 (Q i).x) ∧ w.cell? (x.add (i * 7 + 5)) = some (.int .i64 (Q i).y) ∧ w.cell? (x.add (i * 7 + 6)) = some (.int .i64 (Q i).z) := ⟨fun i => Classical.choose (key i), fun i => Classical.choose_spec (key i)⟩
    refine ⟨some x, m, (List.range len).map Q, by rw [List.length_map, List.length_range], fun hn => ?_, by rw [List.length_map, List.length_range]; omega⟩
    rw [List.length_map, List.length_range] at hn
    obtain ⟨b, o, sp⟩ := x
    have h00 := (hQ 0 hn).1
    have hs := World.cell?_spot h00
    have hs0 : sp = none := by simpa [Addr.add] using hs
    subst hs0
    rw [Addr.add_lit] at h00
    refine ⟨b, o, rfl, World.block_lt_of_cell? w _ h00, fun j q hq i v hv => ?_⟩
    obtain ⟨hj, he⟩ := List.getElem?_eq_some_iff.1 hq
    rw [List.length_map, List.length_range] at hj
    rw [List.getElem_map, List.getElem_range] at he
    have hsp := hQ j hj
    rw [he, Addr.add_lit, Addr.add_lit, Addr.add_lit, Addr.add_lit, Addr.add_lit, Addr.add_lit, Addr.add_lit] at hsp
    obtain ⟨s0, s1, s2, s3, s4, s5, s6⟩ := hsp
    match i, hv with
    | 0, hv =>
      have hv' : v = .int .i64 q.p := by injection hv with hv; exact hv.symm
      rw [hv']
      show w.cell? ⟨b, o + j * 7 + 0, none⟩ = _
      rw [Nat.add_assoc]; exact s0
    | 1, hv =>
      have hv' : v = .int .i64 q.a := by injection hv with hv; exact hv.symm
      rw [hv']
      show w.cell? ⟨b, o + j * 7 + 1, none⟩ = _
      rw [Nat.add_assoc]; exact s1
    | 2, hv =>
      have hv' : v = .int .i64 q.b := by injection hv with hv; exact hv.symm
      rw [hv']
      show w.cell? ⟨b, o + j * 7 + 2, none⟩ = _
      rw [Nat.add_assoc]; exact s2
    | 3, hv =>
      have hv' : v = .int .i64 q.c := by injection hv with hv; exact hv.symm
      rw [hv']
      show w.cell? ⟨b, o + j * 7 + 3, none⟩ = _
      rw [Nat.add_assoc]; exact s3
    | 4, hv =>
      have hv' : v = .int .i64 q.x := by injection hv with hv; exact hv.symm
      rw [hv']
      show w.cell? ⟨b, o + j * 7 + 4, none⟩ = _
      rw [Nat.add_assoc]; exact s4
    | 5, hv =>
      have hv' : v = .int .i64 q.y := by injection hv with hv; exact hv.symm
      rw [hv']
      show w.cell? ⟨b, o + j * 7 + 5, none⟩ = _
      rw [Nat.add_assoc]; exact s5
    | 6, hv =>
      have hv' : v = .int .i64 q.z := by injection hv with hv; exact hv.symm
      rw [hv']
      show w.cell? ⟨b, o + j * 7 + 6, none⟩ = _
      rw [Nat.add_assoc]; exact s6
    | i + 7, hv => exact absurd hv (by simp [KK])
end

end Go.Proofs.Ytkicfneikbiklaa
