/- How the bits of peers, and bits, that came in as arguments are opened. No conditions. -/
import Derived.Test.YtjnpkcnnfojmpaaPeers
import Derived.Test.YtjnpkcnnfojmpaaBaseD
import Derived.WalkKit
import Derived.ProofKit
import Derived.OpenShut
import Derived.ChangeOld
import Derived.Below
import Derived.Lib.SmallJoins
import Derived.Deep.Slices
import Derived.Deep.Grids
namespace Go.Proofs.Ytjnpkcnnfojmpaa
open Go.ChangeShapes Go.WideShapes Go.ChangeAt Go.RowKit Go.Joins
set_option linter.unusedVariables false

section
variable {H : Type} {enc : TypeId × Value → H} {w : World}
theorem cells_bitsP : Try.prog.cellsOf 27 = 1 := by kernel_rfl
/-- A slice of bools that came in. -/
theorem open_bitsP {n : Nat} {x : Value} {y : DataW H × List MemPlace} (h : DataW.trod enc Try.prog w 0 (fun _ => true) true n 27 [x] = some y) :
    ∃ p : PH, x = .slice p.a p.zs.length p.c ∧ BoolsAt w w.heap.size p.a p.zs ∧ p.zs.length ≤ p.c ∧ p.c ≤ maxLen := by
  rcases Deep.open_bools Try.underlying27 Try.underlying4 (by kernel_rfl) h with ⟨hcs, _⟩ | ⟨a, len, cap, B, hcs, _, hl, hm, _, hc⟩
  · injection hcs with hcs _
    subst hcs
    exact ⟨⟨none, 0, []⟩, rfl, BoolsAt.nil, Nat.zero_le _, Nat.zero_le _⟩
  · injection hcs with hcs _
    subst hcs
    obtain ⟨h1, h2, h3⟩ := bools_of_row (w := w) (a := some a) (len := len) (cap := cap) (zs := (List.range cap).map B) (.inr ⟨a, rfl, hl, hm, by simp, fun i hi => rowB_cell hc i hi⟩)
    exact ⟨⟨some a, cap, ((List.range cap).map B).take len⟩, by rw [h2], h1, by rw [h2]; exact hl, hm⟩

set_option maxRecDepth 100000 in
/-- Bits that came in. -/
theorem open_boolsV {r : Reach} {b0 : Nat} {v : Value} {dt : DataW H} {pl : List MemPlace} (hv : Value.okWide Try.prog w r b0 27 v) (h : DataW.Trod enc Try.prog w 0 (fun _ => true) true 27 v dt pl) :
    ∃ (A : Option Addr) (c : Nat) (zs : List Bool), v = .slice A zs.length c ∧ (BoolsAt w w.heap.size A zs ∧ zs.length ≤ maxLen) := by
  obtain ⟨a, len, cap, rfl⟩ := okWide_slice Try.underlying27 hv
  obtain ⟨fuel, hf⟩ := h
  have hf' : DataW.trod enc Try.prog w 0 (fun _ => true) true fuel 27 [.slice a len cap] = some (dt, pl) := by simpa [Value.cells] using hf
  obtain ⟨p, h1, h2, h3, h4⟩ := open_bitsP hf'
  exact ⟨p.a, p.c, p.zs, h1, h2, Nat.le_trans h3 h4⟩

set_option maxRecDepth 100000 in
/-- The bits of peers that came in. -/
theorem open_peersV {r : Reach} {b0 : Nat} {v : Value} {dt : DataW H} {pl : List MemPlace} (hv : Value.okWide Try.prog w r b0 22 v) (h : DataW.Trod enc Try.prog w 0 (fun _ => true) true 22 v dt pl) :
    ∃ (A : Option Addr) (c : Nat) (hs : List PH), v = .slice A hs.length c ∧ PAt w w.heap.size A hs := by
  obtain ⟨a, len, cap, rfl⟩ := okWide_slice Try.underlying22 hv
  obtain ⟨fuel, hf⟩ := h
  rcases Go.Deep.open_slice1 Try.underlying22 cells_bitsP hf with ⟨hcs, _⟩ | ⟨x, l, c, m, n, V, D, Pl, hcs, _, hl, hm, hmm, _, hi⟩
  · simp [Value.cells] at hcs
    obtain ⟨rfl, rfl, rfl⟩ := hcs
    exact ⟨none, 0, [], rfl, RowAt.nil, fun h hh => absurd hh (by simp), fun h hh => absurd hh (by simp), Nat.zero_le _⟩
  · simp [Value.cells] at hcs
    obtain ⟨rfl, rfl, rfl⟩ := hcs
    have hme : m = cap := by simpa using hmm
    subst hme
    have key : ∀ i, ∃ q : PH, i < len → w.cell? (x.add i) = some (.slice q.a q.zs.length q.c) ∧ BoolsAt w w.heap.size q.a q.zs ∧ q.zs.length ≤ q.c ∧ q.c ≤ maxLen := fun i => by
      by_cases hil : i < len
      · obtain ⟨hc, ht⟩ := hi i (by omega)
        obtain ⟨q, h1, h2, h3, h4⟩ := open_bitsP ht
        exact ⟨q, fun _ => ⟨by rw [hc, h1], h2, h3, h4⟩⟩
      · exact ⟨⟨none, 0, []⟩, fun k => absurd k hil⟩
    obtain ⟨Q, hQ⟩ : ∃ Q : Nat → PH, ∀ i, i < len → w.cell? (x.add i) = some (.slice (Q i).a (Q i).zs.length (Q i).c) ∧ BoolsAt w w.heap.size (Q i).a (Q i).zs ∧ (Q i).zs.length ≤ (Q i).c ∧ (Q i).c ≤ maxLen := ⟨fun i => Classical.choose (key i), fun i => Classical.choose_spec (key i)⟩
    have hlen : ((List.range len).map Q).length = len := by rw [List.length_map, List.length_range]
    have hmem : ∀ h ∈ (List.range len).map Q, ∃ i, i < len ∧ h = Q i := fun h hh => by
      obtain ⟨i, hi, rfl⟩ := List.mem_map.1 hh
      exact ⟨i, List.mem_range.1 hi, rfl⟩
    refine ⟨some x, m, (List.range len).map Q, by rw [hlen], fun hn => ?_, fun h hh => ?_, fun h hh => ?_, by rw [hlen]; omega⟩
    · rw [hlen] at hn
      obtain ⟨b, o, sp⟩ := x
      have h00 := (hQ 0 hn).1
      have hs := World.cell?_spot h00
      have hs0 : sp = none := by simpa [Addr.add] using hs
      subst hs0
      rw [Addr.add_lit] at h00
      refine ⟨b, o, rfl, World.block_lt_of_cell? w _ h00, fun j q hq i v hv => ?_⟩
      obtain ⟨hj, he⟩ := List.getElem?_eq_some_iff.1 hq
      rw [hlen] at hj
      rw [List.getElem_map, List.getElem_range] at he
      have hsp := (hQ j hj).1
      rw [he, Addr.add_lit] at hsp
      match i, hv with
      | 0, hv =>
        have hv' : v = .slice q.a q.zs.length q.c := by injection hv with hv; exact hv.symm
        rw [hv']
        show w.cell? ⟨b, o + j * 1 + 0, none⟩ = _
        rw [Nat.mul_one, Nat.add_zero]; exact hsp
      | i + 1, hv => exact absurd hv (by simp [PK])
    · obtain ⟨i, hi, rfl⟩ := hmem h hh
      exact (hQ i hi).2.1
    · obtain ⟨i, hi, rfl⟩ := hmem h hh
      exact (hQ i hi).2.2
end

end Go.Proofs.Ytjnpkcnnfojmpaa
