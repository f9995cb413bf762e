/- How a journal and a record that came in as arguments are opened. No conditions. -/
import Derived.Test.YtmddfjfflgfdlaaRecs
import Derived.WalkKit
import Derived.ProofKit
import Derived.OpenShut
import Derived.ChangeOld
import Derived.Below
import Derived.Lib.SmallJoins
import Derived.Deep.Slices
namespace Go.Proofs.Ytmddfjfflgfdlaa
open Go.ChangeShapes Go.WideShapes Go.ChangeAt Go.RowKit Go.Joins
set_option linter.unusedVariables false

section
variable {H : Type} {enc : TypeId × Value → H} {w : World}
theorem cells_recL : Try.prog.cellsOf 34 = 2 := by kernel_rfl
theorem cells_jourL : Try.prog.cellsOf 24 = 2 := by kernel_rfl
theorem cells_intR : Try.prog.cellsOf 3 = 1 := by kernel_rfl
theorem cells_strR : Try.prog.cellsOf 9 = 1 := by kernel_rfl
theorem cells_recsR : Try.prog.cellsOf 22 = 1 := by kernel_rfl
theorem open_rec2 {n : Nat} {x0 x1 : Value} {y : DataW H × List MemPlace} (h : DataW.trod enc Try.prog w 0 (fun _ => true) true n 34 [x0, x1] = some y) : ∃ a : RD, x0 = .int .i64 a.i ∧ x1 = .string a.t ∧ a.t.size ≤ maxLen := by
  obtain ⟨xs, m, _, _, _, hlen, hg⟩ := DataW.trod_struct Try.underlying34 h
  match xs, hlen with
  | [y0, y1], _ =>
    have g0 : DataW.trod enc Try.prog w 0 (fun _ => true) true m 3 [x0] = some y0 := by simpa [cells_intR] using hg 0 _ rfl
    have g1 : DataW.trod enc Try.prog w 0 (fun _ => true) true m 9 [x1] = some y1 := by simpa [cells_strR] using hg 1 _ rfl
    obtain ⟨p, e0, _, w0⟩ := DataW.trod_int Try.underlying3 g0
    obtain ⟨b, e1, _, w1⟩ := DataW.trod_string Try.underlying9 g1
    simp at e0 e1
    exact ⟨⟨p, b⟩, e0, e1, w1⟩
set_option maxRecDepth 100000 in
/-- A record that came in. -/
theorem open_recV {r : Reach} {b0 : Nat} {v : Value} {dt : DataW H} {pl : List MemPlace} (hv : Value.okWide Try.prog w r b0 34 v) (h : DataW.Trod enc Try.prog w 0 (fun _ => true) true 34 v dt pl) :
    ∃ (i : Int) (t : ByteArray), v = .agg #[.int .i64 i, .string t] ∧ t.size ≤ maxLen := by
  obtain ⟨cs, rfl, hsz⟩ := okWide_struct Try.underlying34 hv
  obtain ⟨L⟩ := cs
  match L, hsz.trans cells_recL with
  | [x0, x1], _ =>
    obtain ⟨fuel, hf⟩ := h
    obtain ⟨a, rfl, rfl, ht⟩ := open_rec2 hf
    exact ⟨a.i, a.t, rfl, ht⟩
/-- Records that came in. -/
theorem open_recsR {n : Nat} {v : Value} {y : DataW H × List MemPlace} (hf : DataW.trod enc Try.prog w 0 (fun _ => true) true n 22 [v] = some y) :
    ∃ (A : Option Addr) (c : Nat) (xs : List RD), v = .slice A xs.length c ∧ (RowAt RK w w.heap.size A xs ∧ FitR xs ∧ xs.length ≤ maxLen) := by
  rcases Go.Deep.open_slice Try.underlying22 hf with ⟨hcs, _⟩ | ⟨x, len, cap, m, n, D, Pl, hcs, _, hl, hm, hmm, _, hi⟩
  · injection hcs with hcs _
    subst hcs
    exact ⟨none, 0, [], rfl, RowAt.nil, FitR.of (fun _ h => by cases h), Nat.zero_le _⟩
  · injection hcs with hcs _
    subst hcs
    have hme : m = cap := by simpa using hmm
    subst hme
    have key : ∀ i, ∃ q : RD, i < len → (w.cell? (x.add (i * 2 + 0)) = some (.int .i64 q.i) ∧ w.cell? (x.add (i * 2 + 1)) = some (.string q.t)) ∧ q.t.size ≤ maxLen := fun i => by
      by_cases hil : i < len
      · obtain ⟨cs', hc, ht⟩ := hi i (by omega)
        rw [cells_recL] at hc
        obtain ⟨_, hcl, hat⟩ := World.cells?_some hc
        match cs', hcl with
        | [x0, x1], _ =>
          obtain ⟨q, rfl, rfl, hq⟩ := open_rec2 ht
          have h0 := hat 0 (by decide)
          have h1 := hat 1 (by decide)
          rw [Go.Deep.add_add] at h0 h1
          exact ⟨q, fun _ => ⟨⟨h0, h1⟩, hq⟩⟩
      · exact ⟨⟨0, ByteArray.empty⟩, fun k => absurd k hil⟩
    obtain ⟨Q, hQ⟩ : ∃ Q : Nat → RD, ∀ i, i < len → (w.cell? (x.add (i * 2 + 0)) = some (.int .i64 (Q i).i) ∧ w.cell? (x.add (i * 2 + 1)) = some (.string (Q i).t)) ∧ (Q i).t.size ≤ maxLen := ⟨fun i => Classical.choose (key i), fun i => Classical.choose_spec (key i)⟩
    refine ⟨some x, m, (List.range len).map Q, by rw [List.length_map, List.length_range], fun hn => ?_, FitR.of (fun q hq => ?_), by rw [List.length_map, List.length_range]; omega⟩
    · rw [List.length_map, List.length_range] at hn
      obtain ⟨b, o, sp⟩ := x
      have h00 := (hQ 0 hn).1.1
      have hs := World.cell?_spot h00
      have hs0 : sp = none := by simpa [Addr.add] using hs
      subst hs0
      rw [Addr.add_lit] at h00
      refine ⟨b, o, rfl, World.block_lt_of_cell? w _ h00, fun j q hq i v hv => ?_⟩
      obtain ⟨hj, he⟩ := List.getElem?_eq_some_iff.1 hq
      rw [List.length_map, List.length_range] at hj
      rw [List.getElem_map, List.getElem_range] at he
      have hsp := (hQ j hj).1
      rw [he, Addr.add_lit, Addr.add_lit] at hsp
      match i, hv with
      | 0, hv =>
        have hv' : v = .int .i64 q.i := by injection hv with hv; exact hv.symm
        rw [hv']
        show w.cell? ⟨b, o + j * 2 + 0, none⟩ = _
        rw [Nat.add_assoc]; exact hsp.1
      | 1, hv =>
        have hv' : v = .string q.t := by injection hv with hv; exact hv.symm
        rw [hv']
        show w.cell? ⟨b, o + j * 2 + 1, none⟩ = _
        rw [Nat.add_assoc]; exact hsp.2
      | i + 2, hv => exact absurd hv (by simp [RK])
    · obtain ⟨j, hj, rfl⟩ := List.mem_map.1 hq
      exact (hQ j (List.mem_range.1 hj)).2
set_option maxRecDepth 100000 in
/-- A journal that came in. -/
theorem open_jourV {r : Reach} {b0 : Nat} {v : Value} {dt : DataW H} {pl : List MemPlace} (hv : Value.okWide Try.prog w r b0 24 v) (h : DataW.Trod enc Try.prog w 0 (fun _ => true) true 24 v dt pl) :
    ∃ (A : Option Addr) (c : Nat) (s : Int) (xs : List RD), v = journalV A xs.length c s ∧ (RowAt RK w w.heap.size A xs ∧ FitR xs ∧ xs.length ≤ maxLen) := by
  obtain ⟨cs, rfl, hsz⟩ := okWide_struct Try.underlying24 hv
  obtain ⟨L⟩ := cs
  match L, hsz.trans cells_jourL with
  | [x0, x1], _ =>
    obtain ⟨fuel, hf⟩ := h
    obtain ⟨xs, m, _, _, _, hlen, hg⟩ := DataW.trod_struct Try.underlying24 hf
    match xs, hlen with
    | [y0, y1], _ =>
      have g0 : DataW.trod enc Try.prog w 0 (fun _ => true) true m 22 [x0] = some y0 := by simpa [Value.cells, cells_recsR] using hg 0 _ rfl
      have g1 : DataW.trod enc Try.prog w 0 (fun _ => true) true m 3 [x1] = some y1 := by simpa [Value.cells, cells_intR] using hg 1 _ rfl
      obtain ⟨A, c, rs, rfl, hr⟩ := open_recsR g0
      obtain ⟨s, e1, _, w1⟩ := DataW.trod_int Try.underlying3 g1
      simp at e1
      subst e1
      exact ⟨A, c, s, rs, rfl, hr⟩
end

end Go.Proofs.Ytmddfjfflgfdlaa
