/- How a feed or a head that came in as an argument is opened: its numbers, its texts and its bits. No conditions. -/
import Derived.Test.YtgklkceoafohmaaDoorBaseH
import Derived.Test.YtgklkceoafohmaaDoorBaseL
import Derived.WalkKit
import Derived.ProofKit
import Derived.OpenShut
import Derived.ChangeOld
import Derived.Below
import Derived.Lib.SmallJoins
import Derived.SliceStrings
import Derived.Deep.Grids
namespace Go.Proofs.YtgklkceoafohmaaDoor
open Go.ChangeShapes Go.WideShapes Go.ChangeAt Go.RowKit Go.Joins
set_option linter.unusedVariables false

section
variable {H : Type} {enc : TypeId × Value → H} {w : World}

theorem rowS_of {x : Addr} {len cap : Nat} {ss : List ByteArray} (hl : len ≤ cap) (hm : cap ≤ maxLen) (hz : ss.length = cap) (hc : ∀ i, i < ss.length → w.cell? (x.add i) = some (.string (ss.getD i ByteArray.empty))) : IsRowS w (some x) len cap ss :=
  .inr ⟨x, rfl, hl, hm, hz, hc⟩
/-- A slice of texts that came in. -/
theorem open_texts {n : Nat} {x : Value} {y : DataW H × List MemPlace} (h : DataW.trod enc Tryd.prog w 0 (fun _ => true) true n 25 [x] = some y) :
    ∃ (A : Option Addr) (c : Nat) (bs : List ByteArray), x = .slice A bs.length c ∧ StrsAt w w.heap.size A bs ∧ Fit bs ∧ bs.length ≤ maxLen := by
  rcases open_strings Tryd.underlying25 Tryd.underlying9 (by kernel_rfl) h with ⟨hcs, _⟩ | ⟨a, len, cap, ss, hcs, _, hl, hm, hz, _, hc, hf⟩
  · injection hcs with hcs _
    subst hcs
    exact ⟨none, 0, [], rfl, StrsAt.nil, fun k => Nat.zero_le _, Nat.zero_le _⟩
  · injection hcs with hcs _
    subst hcs
    simp only [if_true] at hz
    obtain ⟨h1, h2, h3⟩ := strs_of_row (rowS_of hl hm hz hc)
    refine ⟨some a, cap, ss.take len, by rw [h2], h1, Fit.of fun s hs => hf s (List.mem_of_mem_take hs), by rw [h2]; exact h3⟩
/-- A slice of bools that came in. -/
theorem open_bits {n : Nat} {x : Value} {y : DataW H × List MemPlace} (h : DataW.trod enc Tryd.prog w 0 (fun _ => true) true n 26 [x] = some y) :
    ∃ (A : Option Addr) (c : Nat) (hs : List Bool), x = .slice A hs.length c ∧ BoolsAt w w.heap.size A hs ∧ hs.length ≤ maxLen := by
  rcases Deep.open_bools Tryd.underlying26 Tryd.underlying4 (by kernel_rfl) h with ⟨hcs, _⟩ | ⟨a, len, cap, B, hcs, _, hl, hm, _, hc⟩
  · injection hcs with hcs _
    subst hcs
    exact ⟨none, 0, [], rfl, BoolsAt.nil, Nat.zero_le _⟩
  · injection hcs with hcs _
    subst hcs
    obtain ⟨h1, h2, h3⟩ := bools_of_row (w := w) (a := some a) (len := len) (cap := cap) (zs := (List.range cap).map B) (.inr ⟨a, rfl, hl, hm, by simp, fun i hi => rowB_cell hc i hi⟩)
    exact ⟨some a, cap, _, by rw [h2], h1, by rw [h2]; exact h3⟩

theorem cells_feed : Tryd.prog.cellsOf 45 = 6 := by kernel_rfl
theorem cells_head : Tryd.prog.cellsOf 43 = 3 := by kernel_rfl
theorem cells_int : Tryd.prog.cellsOf 3 = 1 := by kernel_rfl
theorem cells_strs : Tryd.prog.cellsOf 25 = 1 := by kernel_rfl
theorem cells_bits : Tryd.prog.cellsOf 26 = 1 := by kernel_rfl

theorem open_head3 {n : Nat} {x0 x1 x2 : Value} {y : DataW H × List MemPlace} (h : DataW.trod enc Tryd.prog w 0 (fun _ => true) true n 43 [x0, x1, x2] = some y) : ∃ l d s : Int, x0 = .int .i64 l ∧ x1 = .int .i64 d ∧ x2 = .int .i64 s ∧ (Lit.int .i64 l).wf = true ∧ (Lit.int .i64 d).wf = true ∧ (Lit.int .i64 s).wf = true := by
  obtain ⟨xs, m, _, _, _, hlen, hg⟩ := DataW.trod_struct Tryd.underlying43 h
  match xs, hlen with
  | [y0, y1, y2], _ =>
    have g0 : DataW.trod enc Tryd.prog w 0 (fun _ => true) true m 3 [x0] = some y0 := by simpa [cells_int] using hg 0 _ rfl
    have g1 : DataW.trod enc Tryd.prog w 0 (fun _ => true) true m 3 [x1] = some y1 := by simpa [cells_int] using hg 1 _ rfl
    have g2 : DataW.trod enc Tryd.prog w 0 (fun _ => true) true m 3 [x2] = some y2 := by simpa [cells_int] using hg 2 _ rfl
    obtain ⟨l, e0, _, w0⟩ := DataW.trod_int Tryd.underlying3 g0
    obtain ⟨d, e1, _, w1⟩ := DataW.trod_int Tryd.underlying3 g1
    obtain ⟨s, e2, _, w2⟩ := DataW.trod_int Tryd.underlying3 g2
    simp at e0 e1 e2
    exact ⟨l, d, s, e0, e1, e2, w0, w1, w2⟩

set_option maxRecDepth 100000 in
/-- A feed that came in. -/
theorem open_feed {r : Reach} {b0 : Nat} {v : Value} {dt : DataW H} {pl : List MemPlace} (hv : Value.okWide Tryd.prog w r b0 45 v) (h : DataW.Trod enc Tryd.prog w 0 (fun _ => true) true 45 v dt pl) :
    ∃ (p l d s : Int) (A1 : Option Addr) (c1 : Nat) (A2 : Option Addr) (c2 : Nat) (bs : List ByteArray) (hs : List Bool), v = feedV p l d s A1 bs.length c1 A2 hs.length c2 ∧ FeedAt w w.heap.size A1 A2 bs hs := by
  obtain ⟨cs, rfl, hsz⟩ := okWide_struct Tryd.underlying45 hv
  obtain ⟨L⟩ := cs
  match L, hsz.trans cells_feed with
  | [x0, x1, x2, x3, x4, x5], _ =>
    obtain ⟨fuel, hf⟩ := h
    obtain ⟨xs, n, _, hx, _, hlen, hg⟩ := DataW.trod_struct Tryd.underlying45 hf
    match xs, hlen with
    | [y0, y1, y2, y3], _ =>
      have g0 : DataW.trod enc Tryd.prog w 0 (fun _ => true) true n 3 [x0] = some y0 := by simpa [Value.cells, cells_int] using hg 0 _ rfl
      have g1 : DataW.trod enc Tryd.prog w 0 (fun _ => true) true n 43 [x1, x2, x3] = some y1 := by simpa [Value.cells, cells_head] using hg 1 _ rfl
      have g2 : DataW.trod enc Tryd.prog w 0 (fun _ => true) true n 25 [x4] = some y2 := by simpa [Value.cells, cells_strs] using hg 2 _ rfl
      have g3 : DataW.trod enc Tryd.prog w 0 (fun _ => true) true n 26 [x5] = some y3 := by simpa [Value.cells, cells_bits] using hg 3 _ rfl
      obtain ⟨p, e0, _, w0⟩ := DataW.trod_int Tryd.underlying3 g0
      simp at e0
      obtain ⟨l, d, s, rfl, rfl, rfl, _⟩ := open_head3 g1
      obtain ⟨A1, c1, bs, rfl, h1, h2, h3⟩ := open_texts g2
      obtain ⟨A2, c2, hs, rfl, h4, h5⟩ := open_bits g3
      subst e0
      exact ⟨p, l, d, s, A1, c1, A2, c2, bs, hs, rfl, h1, h4, h2, h3, h5⟩
end

end Go.Proofs.YtgklkceoafohmaaDoor
