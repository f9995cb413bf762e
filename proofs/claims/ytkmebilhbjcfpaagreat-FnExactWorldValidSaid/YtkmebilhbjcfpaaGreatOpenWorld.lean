/- How a run that came in as an argument is opened. No conditions. -/
import Derived.Test.YtkmebilhbjcfpaaGreatBaseW
import Derived.Test.YtkmebilhbjcfpaaGreatBaseL
import Derived.Test.YtkmebilhbjcfpaaGreatBaseD
import Derived.WalkKit
import Derived.ProofKit
import Derived.OpenShut
import Derived.ChangeOld
import Derived.Below
import Derived.Lib.SmallJoins
import Derived.SliceStrings
import Derived.Deep.Slices
import Derived.Deep.Grids
namespace Go.Proofs.YtkmebilhbjcfpaaGreat
open Go.ChangeShapes Go.WideShapes Go.ChangeAt Go.RowKit Go.Joins
set_option linter.unusedVariables false

section
variable {H : Type} {enc : TypeId × Value → H} {w : World}
theorem cellsW_int : Tryz.prog.cellsOf 3 = 1 := by kernel_rfl
theorem cellsW_str : Tryz.prog.cellsOf 9 = 1 := by kernel_rfl
theorem cellsW_ints : Tryz.prog.cellsOf 39 = 1 := by kernel_rfl
theorem cellsW_strs : Tryz.prog.cellsOf 53 = 1 := by kernel_rfl
theorem cellsW_bits : Tryz.prog.cellsOf 54 = 1 := by kernel_rfl
theorem cellsW_head : Tryz.prog.cellsOf 83 = 3 := by kernel_rfl
theorem cellsW_feed : Tryz.prog.cellsOf 85 = 6 := by kernel_rfl
theorem cellsW_link : Tryz.prog.cellsOf 111 = 2 := by kernel_rfl
theorem cellsW_ask : Tryz.prog.cellsOf 146 = 2 := by kernel_rfl
theorem cellsW_asks : Tryz.prog.cellsOf 87 = 1 := by kernel_rfl
theorem cellsW_piece : Tryz.prog.cellsOf 89 = 6 := by kernel_rfl
theorem cellsW_feeds : Tryz.prog.cellsOf 22 = 1 := by kernel_rfl
theorem cellsW_links : Tryz.prog.cellsOf 23 = 1 := by kernel_rfl
theorem cellsW_askss : Tryz.prog.cellsOf 24 = 1 := by kernel_rfl
theorem cellsW_pieces : Tryz.prog.cellsOf 25 = 1 := by kernel_rfl
theorem cellsW_world : Tryz.prog.cellsOf 27 = 6 := by kernel_rfl
/-- A slice of texts that came in. -/
theorem openW_texts {n : Nat} {x : Value} {y : DataW H × List MemPlace} (h : DataW.trod enc Tryz.prog w 0 (fun _ => true) true n 53 [x] = some y) :
    ∃ (A : Option Addr) (c : Nat) (bs : List ByteArray), x = .slice A bs.length c ∧ StrsAt w w.heap.size A bs ∧ Fit bs ∧ (A = none → c = 0) ∧ bs.length ≤ c ∧ c ≤ maxLen := by
  rcases open_strings Tryz.underlying53 Tryz.underlying9 (by kernel_rfl) h with ⟨hcs, _⟩ | ⟨a, len, cap, ss, hcs, _, hl, hm, hz, _, hc, hf⟩
  · injection hcs with hcs _
    subst hcs
    exact ⟨none, 0, [], rfl, StrsAt.nil, fun k => Nat.zero_le _, fun _ => rfl, Nat.zero_le _, Nat.zero_le _⟩
  · injection hcs with hcs _
    subst hcs
    simp only [if_true] at hz
    obtain ⟨h1, h2, h3⟩ := strs_of_row (w := w) (a := some a) (len := len) (cap := cap) (zs := ss) (.inr ⟨a, rfl, hl, hm, hz, hc⟩)
    exact ⟨some a, cap, ss.take len, by rw [h2], h1, Fit.of fun s hs => hf s (List.mem_of_mem_take hs), fun e => (by cases e), by rw [h2]; exact hl, hm⟩
/-- A slice of bools that came in. -/
theorem openW_bits {n : Nat} {x : Value} {y : DataW H × List MemPlace} (h : DataW.trod enc Tryz.prog w 0 (fun _ => true) true n 54 [x] = some y) :
    ∃ (A : Option Addr) (c : Nat) (hs : List Bool), x = .slice A hs.length c ∧ BoolsAt w w.heap.size A hs ∧ (A = none → c = 0) ∧ hs.length ≤ c ∧ c ≤ maxLen := by
  rcases Deep.open_bools Tryz.underlying54 Tryz.underlying4 (by kernel_rfl) h with ⟨hcs, _⟩ | ⟨a, len, cap, B, hcs, _, hl, hm, _, hc⟩
  · injection hcs with hcs _
    subst hcs
    exact ⟨none, 0, [], rfl, BoolsAt.nil, fun _ => rfl, Nat.zero_le _, Nat.zero_le _⟩
  · injection hcs with hcs _
    subst hcs
    obtain ⟨h1, h2, h3⟩ := bools_of_row (w := w) (a := some a) (len := len) (cap := cap) (zs := (List.range cap).map B) (.inr ⟨a, rfl, hl, hm, by simp, fun i hi => rowB_cell hc i hi⟩)
    exact ⟨some a, cap, _, by rw [h2], h1, fun e => (by cases e), by rw [h2]; exact hl, hm⟩
/-- A slice of integers that came in. -/
theorem openW_ints {n : Nat} {x : Value} {y : DataW H × List MemPlace} (h : DataW.trod enc Tryz.prog w 0 (fun _ => true) true n 39 [x] = some y) :
    ∃ (A : Option Addr) (c : Nat) (zs : List Int), x = .slice A zs.length c ∧ IntsAt w w.heap.size A zs ∧ (A = none → c = 0) ∧ zs.length ≤ c ∧ c ≤ maxLen := by
  rcases open_ints Tryz.underlying39 Tryz.underlying3 (by kernel_rfl) h with ⟨hcs, _⟩ | ⟨a, len, cap, zs, hcs, _, hl, hm, hz, _, hc, hw⟩
  · injection hcs with hcs _
    subst hcs
    exact ⟨none, 0, [], rfl, IntsAt.nil, fun _ => rfl, Nat.zero_le _, Nat.zero_le _⟩
  · injection hcs with hcs _
    subst hcs
    simp only [if_true] at hz
    obtain ⟨h1, h2, h3⟩ := ints_of_row (w := w) (a := some a) (len := len) (cap := cap) (zs := zs) (.inr ⟨a, rfl, hl, hm, hz, hc, hw⟩)
    exact ⟨some a, cap, zs.take len, by rw [h2], h1, fun e => (by cases e), by rw [h2]; exact hl, hm⟩
theorem openW_head {n : Nat} {x0 x1 x2 : Value} {y : DataW H × List MemPlace} (h : DataW.trod enc Tryz.prog w 0 (fun _ => true) true n 83 [x0, x1, x2] = some y) : ∃ l d s : Int, x0 = .int .i64 l ∧ x1 = .int .i64 d ∧ x2 = .int .i64 s := by
  obtain ⟨xs, m, _, _, _, hlen, hg⟩ := DataW.trod_struct Tryz.underlying83 h
  match xs, hlen with
  | [y0, y1, y2], _ =>
    have g0 : DataW.trod enc Tryz.prog w 0 (fun _ => true) true m 3 [x0] = some y0 := by simpa [cellsW_int] using hg 0 _ rfl
    have g1 : DataW.trod enc Tryz.prog w 0 (fun _ => true) true m 3 [x1] = some y1 := by simpa [cellsW_int] using hg 1 _ rfl
    have g2 : DataW.trod enc Tryz.prog w 0 (fun _ => true) true m 3 [x2] = some y2 := by simpa [cellsW_int] using hg 2 _ rfl
    obtain ⟨l, e0, _, w0⟩ := DataW.trod_int Tryz.underlying3 g0
    obtain ⟨d, e1, _, w1⟩ := DataW.trod_int Tryz.underlying3 g1
    obtain ⟨s, e2, _, w2⟩ := DataW.trod_int Tryz.underlying3 g2
    simp at e0 e1 e2
    exact ⟨l, d, s, e0, e1, e2⟩
theorem openW_feed {n : Nat} {x0 x1 x2 x3 x4 x5 : Value} {y : DataW H × List MemPlace} (h : DataW.trod enc Tryz.prog w 0 (fun _ => true) true n 85 [x0, x1, x2, x3, x4, x5] = some y) : ∃ q : FH, x0 = .int .i64 q.f.p ∧ x1 = .int .i64 q.f.l ∧ x2 = .int .i64 q.f.d ∧ x3 = .int .i64 q.f.s ∧ x4 = .slice q.a1 q.f.bs.length q.c1 ∧ x5 = .slice q.a2 q.f.hs.length q.c2 ∧ FhAt w w.heap.size q := by
  obtain ⟨xs, m, _, _, _, hlen, hg⟩ := DataW.trod_struct Tryz.underlying85 h
  match xs, hlen with
  | [y0, y1, y2, y3], _ =>
    have g0 : DataW.trod enc Tryz.prog w 0 (fun _ => true) true m 3 [x0] = some y0 := by simpa [cellsW_int] using hg 0 _ rfl
    have g1 : DataW.trod enc Tryz.prog w 0 (fun _ => true) true m 83 [x1, x2, x3] = some y1 := by simpa [cellsW_int, cellsW_head] using hg 1 _ rfl
    have g2 : DataW.trod enc Tryz.prog w 0 (fun _ => true) true m 53 [x4] = some y2 := by simpa [cellsW_int, cellsW_head, cellsW_strs] using hg 2 _ rfl
    have g3 : DataW.trod enc Tryz.prog w 0 (fun _ => true) true m 54 [x5] = some y3 := by simpa [cellsW_int, cellsW_head, cellsW_strs, cellsW_bits] using hg 3 _ rfl
    obtain ⟨p, e0, _, w0⟩ := DataW.trod_int Tryz.underlying3 g0
    simp at e0
    obtain ⟨l, d, s, e1, e2, e3⟩ := openW_head g1
    obtain ⟨A1, c1, bs, e4, h1, h2, h3, h4, h5⟩ := openW_texts g2
    obtain ⟨A2, c2, hs, e5, k1, k2, k3, k4⟩ := openW_bits g3
    exact ⟨⟨⟨p, l, d, s, bs, hs⟩, A1, c1, A2, c2⟩, e0, e1, e2, e3, e4, e5, ⟨h1, k1, h2, Nat.le_trans h4 h5, Nat.le_trans k3 k4⟩, h3, k2, ⟨h4, h5⟩, ⟨k3, k4⟩⟩
theorem openW_link {n : Nat} {x0 x1 : Value} {y : DataW H × List MemPlace} (h : DataW.trod enc Tryz.prog w 0 (fun _ => true) true n 111 [x0, x1] = some y) : ∃ q : LinkD, x0 = .int .i64 q.a ∧ x1 = .int .i64 q.b ∧ True := by
  obtain ⟨xs, m, _, _, _, hlen, hg⟩ := DataW.trod_struct Tryz.underlying111 h
  match xs, hlen with
  | [y0, y1], _ =>
    have g0 : DataW.trod enc Tryz.prog w 0 (fun _ => true) true m 3 [x0] = some y0 := by simpa [cellsW_int] using hg 0 _ rfl
    have g1 : DataW.trod enc Tryz.prog w 0 (fun _ => true) true m 3 [x1] = some y1 := by simpa [cellsW_int] using hg 1 _ rfl
    obtain ⟨p, e0, _, w0⟩ := DataW.trod_int Tryz.underlying3 g0
    obtain ⟨b, e1, _, w1⟩ := DataW.trod_int Tryz.underlying3 g1
    simp at e0 e1
    exact ⟨⟨p, b⟩, e0, e1, trivial⟩
theorem openW_ask {n : Nat} {x0 x1 : Value} {y : DataW H × List MemPlace} (h : DataW.trod enc Tryz.prog w 0 (fun _ => true) true n 146 [x0, x1] = some y) : ∃ q : AD, x0 = .int .i64 q.p ∧ x1 = .int .i64 q.b ∧ True := by
  obtain ⟨xs, m, _, _, _, hlen, hg⟩ := DataW.trod_struct Tryz.underlying146 h
  match xs, hlen with
  | [y0, y1], _ =>
    have g0 : DataW.trod enc Tryz.prog w 0 (fun _ => true) true m 3 [x0] = some y0 := by simpa [cellsW_int] using hg 0 _ rfl
    have g1 : DataW.trod enc Tryz.prog w 0 (fun _ => true) true m 3 [x1] = some y1 := by simpa [cellsW_int] using hg 1 _ rfl
    obtain ⟨p, e0, _, w0⟩ := DataW.trod_int Tryz.underlying3 g0
    obtain ⟨b, e1, _, w1⟩ := DataW.trod_int Tryz.underlying3 g1
    simp at e0 e1
    exact ⟨⟨p, b⟩, e0, e1, trivial⟩
theorem openW_piece {n : Nat} {x0 x1 x2 x3 x4 x5 : Value} {y : DataW H × List MemPlace} (h : DataW.trod enc Tryz.prog w 0 (fun _ => true) true n 89 [x0, x1, x2, x3, x4, x5] = some y) : ∃ q : QH, x0 = .int .i64 q.p.fr ∧ x1 = .int .i64 q.p.to ∧ x2 = .int .i64 q.p.ln ∧ x3 = .int .i64 q.p.ix ∧ x4 = .string q.p.tx ∧ x5 = .slice q.a q.p.pf.length q.c ∧ QhAt w w.heap.size q := by
  obtain ⟨xs, m, _, _, _, hlen, hg⟩ := DataW.trod_struct Tryz.underlying89 h
  match xs, hlen with
  | [y0, y1, y2, y3, y4, y5], _ =>
    have g0 : DataW.trod enc Tryz.prog w 0 (fun _ => true) true m 3 [x0] = some y0 := by simpa [cellsW_int] using hg 0 _ rfl
    have g1 : DataW.trod enc Tryz.prog w 0 (fun _ => true) true m 3 [x1] = some y1 := by simpa [cellsW_int] using hg 1 _ rfl
    have g2 : DataW.trod enc Tryz.prog w 0 (fun _ => true) true m 3 [x2] = some y2 := by simpa [cellsW_int] using hg 2 _ rfl
    have g3 : DataW.trod enc Tryz.prog w 0 (fun _ => true) true m 3 [x3] = some y3 := by simpa [cellsW_int] using hg 3 _ rfl
    have g4 : DataW.trod enc Tryz.prog w 0 (fun _ => true) true m 9 [x4] = some y4 := by simpa [cellsW_int, cellsW_str] using hg 4 _ rfl
    have g5 : DataW.trod enc Tryz.prog w 0 (fun _ => true) true m 39 [x5] = some y5 := by simpa [cellsW_int, cellsW_str, cellsW_ints] using hg 5 _ rfl
    obtain ⟨a, e0, _, w0⟩ := DataW.trod_int Tryz.underlying3 g0
    obtain ⟨b, e1, _, w1⟩ := DataW.trod_int Tryz.underlying3 g1
    obtain ⟨c, e2, _, w2⟩ := DataW.trod_int Tryz.underlying3 g2
    obtain ⟨d, e3, _, w3⟩ := DataW.trod_int Tryz.underlying3 g3
    obtain ⟨t, e4, _, w4⟩ := DataW.trod_string Tryz.underlying9 g4
    simp at e0 e1 e2 e3 e4
    obtain ⟨A1, c1, zs, e5, h1, h2, h3, h4⟩ := openW_ints g5
    exact ⟨⟨⟨a, b, c, d, t, zs⟩, A1, c1⟩, e0, e1, e2, e3, e4, e5, h1, h3, h4, h2, w4⟩

set_option maxRecDepth 100000 in
theorem openW_askrow {n : Nat} {v : Value} {y : DataW H × List MemPlace} (hf : DataW.trod enc Tryz.prog w 0 (fun _ => true) true n 87 [v] = some y) :
    ∃ (A : Option Addr) (c : Nat) (hs : List AD), v = .slice A hs.length c ∧ RowAt AK w w.heap.size A hs ∧ (∀ q ∈ hs, True) ∧ (A = none → c = 0) ∧ hs.length ≤ c ∧ c ≤ maxLen := by
  rcases Go.Deep.open_slice Tryz.underlying87 hf with ⟨hcs, _⟩ | ⟨x, len, cap, m, n, D, Pl, hcs, _, hl, hm, hmm, _, hi⟩
  · injection hcs with hcs _
    subst hcs
    exact ⟨none, 0, [], rfl, RowAt.nil, fun q hq => (by cases hq), fun _ => rfl, Nat.zero_le _, Nat.zero_le _⟩
  · injection hcs with hcs _
    subst hcs
    have hme : m = cap := by simpa using hmm
    subst hme
    have key : ∀ i, ∃ q : AD, i < len → (w.cell? (x.add (i * 2 + 0)) = some (.int .i64 q.p) ∧ w.cell? (x.add (i * 2 + 1)) = some (.int .i64 q.b)) ∧ True := fun i => by
      by_cases hil : i < len
      · obtain ⟨cs', hc, ht⟩ := hi i (by omega)
        rw [cellsW_ask] at hc
        obtain ⟨_, hcl, hat⟩ := World.cells?_some hc
        match cs', hcl with
        | [x0, x1], _ =>
          obtain ⟨q, rfl, rfl, hq⟩ := openW_ask ht
          have h0 := hat 0 (by decide)
          have h1 := hat 1 (by decide)
          rw [Go.Deep.add_add] at h0 h1
          exact ⟨q, fun _ => ⟨⟨h0, h1⟩, hq⟩⟩
      · exact ⟨⟨0, 0⟩, fun k => absurd k hil⟩
    obtain ⟨Q, hQ⟩ : ∃ Q : Nat → AD, ∀ i, i < len → (w.cell? (x.add (i * 2 + 0)) = some (.int .i64 (Q i).p) ∧ w.cell? (x.add (i * 2 + 1)) = some (.int .i64 (Q i).b)) ∧ True := ⟨fun i => Classical.choose (key i), fun i => Classical.choose_spec (key i)⟩
    have hlen : ((List.range len).map Q).length = len := by rw [List.length_map, List.length_range]
    refine ⟨some x, m, (List.range len).map Q, by rw [hlen], fun hn => ?_, fun q hq => ?_, fun e => (by cases e), by rw [hlen]; exact hl, hm⟩
    · rw [hlen] at hn
      obtain ⟨b, o, sp⟩ := x
      have h00 := (hQ 0 hn).1.1
      have hs := World.cell?_spot h00
      have hs0 : sp = none := by simpa [Addr.add] using hs
      subst hs0
      rw [Addr.add_lit] at h00
      refine ⟨b, o, rfl, World.block_lt_of_cell? w _ h00, fun j q hq i v hv => ?_⟩
      obtain ⟨hj, he⟩ := List.getElem?_eq_some_iff.1 hq
      rw [hlen] at hj
      rw [List.getElem_map, List.getElem_range] at he
      have hsp := (hQ j hj).1
      rw [he, Addr.add_lit, Addr.add_lit] at hsp
      obtain ⟨s0, s1⟩ := hsp
      match i, hv with
      | 0, hv =>
        have hv' : v = .int .i64 q.p := by injection hv with hv; exact hv.symm
        rw [hv']
        show w.cell? ⟨b, o + j * 2 + 0, none⟩ = _
        rw [Nat.add_assoc]; exact s0
      | 1, hv =>
        have hv' : v = .int .i64 q.b := by injection hv with hv; exact hv.symm
        rw [hv']
        show w.cell? ⟨b, o + j * 2 + 1, none⟩ = _
        rw [Nat.add_assoc]; exact s1
      | i + 2, hv => exact absurd hv (by simp [AK])
    · obtain ⟨i, hi', rfl⟩ := List.mem_map.1 hq
      exact (hQ i (List.mem_range.1 hi')).2

theorem openW_asksH {n : Nat} {v : Value} {y : DataW H × List MemPlace} (hf : DataW.trod enc Tryz.prog w 0 (fun _ => true) true n 87 [v] = some y) :
    ∃ q : AH, v = .slice q.a q.xs.length q.c ∧ AsksAt w w.heap.size q.a q.c q.xs := by
  obtain ⟨A, c, xs, h1, h2, _, h4, h5, h6⟩ := openW_askrow hf
  exact ⟨⟨A, c, xs⟩, h1, h2, h5, h6, h4⟩

set_option maxRecDepth 100000 in
theorem openW_feeds {n : Nat} {v : Value} {y : DataW H × List MemPlace} (hf : DataW.trod enc Tryz.prog w 0 (fun _ => true) true n 22 [v] = some y) :
    ∃ (A : Option Addr) (c : Nat) (hs : List FH), v = .slice A hs.length c ∧ RowAt FK w w.heap.size A hs ∧ (∀ q ∈ hs, FhAt w w.heap.size q) ∧ (A = none → c = 0) ∧ hs.length ≤ c ∧ c ≤ maxLen := by
  rcases Go.Deep.open_slice Tryz.underlying22 hf with ⟨hcs, _⟩ | ⟨x, len, cap, m, n, D, Pl, hcs, _, hl, hm, hmm, _, hi⟩
  · injection hcs with hcs _
    subst hcs
    exact ⟨none, 0, [], rfl, RowAt.nil, fun q hq => (by cases hq), fun _ => rfl, Nat.zero_le _, Nat.zero_le _⟩
  · injection hcs with hcs _
    subst hcs
    have hme : m = cap := by simpa using hmm
    subst hme
    have key : ∀ i, ∃ q : FH, i < len → (w.cell? (x.add (i * 6 + 0)) = some (.int .i64 q.f.p) ∧ w.cell? (x.add (i * 6 + 1)) = some (.int .i64 q.f.l) ∧ w.cell? (x.add (i * 6 + 2)) = some (.int .i64 q.f.d) ∧ w.cell? (x.add (i * 6 + 3)) = some (.int .i64 q.f.s) ∧ w.cell? (x.add (i * 6 + 4)) = some (.slice q.a1 q.f.bs.length q.c1) ∧ w.cell? (x.add (i * 6 + 5)) = some (.slice q.a2 q.f.hs.length q.c2)) ∧ FhAt w w.heap.size q := fun i => by
      by_cases hil : i < len
      · obtain ⟨cs', hc, ht⟩ := hi i (by omega)
        rw [cellsW_feed] at hc
        obtain ⟨_, hcl, hat⟩ := World.cells?_some hc
        match cs', hcl with
        | [x0, x1, x2, x3, x4, x5], _ =>
          obtain ⟨q, rfl, rfl, rfl, rfl, rfl, rfl, hq⟩ := openW_feed ht
          have h0 := hat 0 (by decide)
          have h1 := hat 1 (by decide)
          have h2 := hat 2 (by decide)
          have h3 := hat 3 (by decide)
          have h4 := hat 4 (by decide)
          have h5 := hat 5 (by decide)
          rw [Go.Deep.add_add] at h0 h1 h2 h3 h4 h5
          exact ⟨q, fun _ => ⟨⟨h0, h1, h2, h3, h4, h5⟩, hq⟩⟩
      · exact ⟨⟨zeroF, none, 0, none, 0⟩, fun k => absurd k hil⟩
    obtain ⟨Q, hQ⟩ : ∃ Q : Nat → FH, ∀ i, i < len → (w.cell? (x.add (i * 6 + 0)) = some (.int .i64 (Q i).f.p) ∧ w.cell? (x.add (i * 6 + 1)) = some (.int .i64 (Q i).f.l) ∧ w.cell? (x.add (i * 6 + 2)) = some (.int .i64 (Q i).f.d) ∧ w.cell? (x.add (i * 6 + 3)) = some (.int .i64 (Q i).f.s) ∧ w.cell? (x.add (i * 6 + 4)) = some (.slice (Q i).a1 (Q i).f.bs.length (Q i).c1) ∧ w.cell? (x.add (i * 6 + 5)) = some (.slice (Q i).a2 (Q i).f.hs.length (Q i).c2)) ∧ FhAt w w.heap.size (Q i) := ⟨fun i => Classical.choose (key i), fun i => Classical.choose_spec (key i)⟩
    have hlen : ((List.range len).map Q).length = len := by rw [List.length_map, List.length_range]
    refine ⟨some x, m, (List.range len).map Q, by rw [hlen], fun hn => ?_, fun q hq => ?_, fun e => (by cases e), by rw [hlen]; exact hl, hm⟩
    · rw [hlen] at hn
      obtain ⟨b, o, sp⟩ := x
      have h00 := (hQ 0 hn).1.1
      have hs := World.cell?_spot h00
      have hs0 : sp = none := by simpa [Addr.add] using hs
      subst hs0
      rw [Addr.add_lit] at h00
      refine ⟨b, o, rfl, World.block_lt_of_cell? w _ h00, fun j q hq i v hv => ?_⟩
      obtain ⟨hj, he⟩ := List.getElem?_eq_some_iff.1 hq
      rw [hlen] at hj
      rw [List.getElem_map, List.getElem_range] at he
      have hsp := (hQ j hj).1
      rw [he, Addr.add_lit, Addr.add_lit, Addr.add_lit, Addr.add_lit, Addr.add_lit, Addr.add_lit] at hsp
      obtain ⟨s0, s1, s2, s3, s4, s5⟩ := hsp
      match i, hv with
      | 0, hv =>
        have hv' : v = .int .i64 q.f.p := by injection hv with hv; exact hv.symm
        rw [hv']
        show w.cell? ⟨b, o + j * 6 + 0, none⟩ = _
        rw [Nat.add_assoc]; exact s0
      | 1, hv =>
        have hv' : v = .int .i64 q.f.l := by injection hv with hv; exact hv.symm
        rw [hv']
        show w.cell? ⟨b, o + j * 6 + 1, none⟩ = _
        rw [Nat.add_assoc]; exact s1
      | 2, hv =>
        have hv' : v = .int .i64 q.f.d := by injection hv with hv; exact hv.symm
        rw [hv']
        show w.cell? ⟨b, o + j * 6 + 2, none⟩ = _
        rw [Nat.add_assoc]; exact s2
      | 3, hv =>
        have hv' : v = .int .i64 q.f.s := by injection hv with hv; exact hv.symm
        rw [hv']
        show w.cell? ⟨b, o + j * 6 + 3, none⟩ = _
        rw [Nat.add_assoc]; exact s3
      | 4, hv =>
        have hv' : v = .slice q.a1 q.f.bs.length q.c1 := by injection hv with hv; exact hv.symm
        rw [hv']
        show w.cell? ⟨b, o + j * 6 + 4, none⟩ = _
        rw [Nat.add_assoc]; exact s4
      | 5, hv =>
        have hv' : v = .slice q.a2 q.f.hs.length q.c2 := by injection hv with hv; exact hv.symm
        rw [hv']
        show w.cell? ⟨b, o + j * 6 + 5, none⟩ = _
        rw [Nat.add_assoc]; exact s5
      | i + 6, hv => exact absurd hv (by simp [FK])
    · obtain ⟨i, hi', rfl⟩ := List.mem_map.1 hq
      exact (hQ i (List.mem_range.1 hi')).2

set_option maxRecDepth 100000 in
theorem openW_links {n : Nat} {v : Value} {y : DataW H × List MemPlace} (hf : DataW.trod enc Tryz.prog w 0 (fun _ => true) true n 23 [v] = some y) :
    ∃ (A : Option Addr) (c : Nat) (hs : List LinkD), v = .slice A hs.length c ∧ RowAt NK w w.heap.size A hs ∧ (∀ q ∈ hs, True) ∧ (A = none → c = 0) ∧ hs.length ≤ c ∧ c ≤ maxLen := by
  rcases Go.Deep.open_slice Tryz.underlying23 hf with ⟨hcs, _⟩ | ⟨x, len, cap, m, n, D, Pl, hcs, _, hl, hm, hmm, _, hi⟩
  · injection hcs with hcs _
    subst hcs
    exact ⟨none, 0, [], rfl, RowAt.nil, fun q hq => (by cases hq), fun _ => rfl, Nat.zero_le _, Nat.zero_le _⟩
  · injection hcs with hcs _
    subst hcs
    have hme : m = cap := by simpa using hmm
    subst hme
    have key : ∀ i, ∃ q : LinkD, i < len → (w.cell? (x.add (i * 2 + 0)) = some (.int .i64 q.a) ∧ w.cell? (x.add (i * 2 + 1)) = some (.int .i64 q.b)) ∧ True := fun i => by
      by_cases hil : i < len
      · obtain ⟨cs', hc, ht⟩ := hi i (by omega)
        rw [cellsW_link] at hc
        obtain ⟨_, hcl, hat⟩ := World.cells?_some hc
        match cs', hcl with
        | [x0, x1], _ =>
          obtain ⟨q, rfl, rfl, hq⟩ := openW_link ht
          have h0 := hat 0 (by decide)
          have h1 := hat 1 (by decide)
          rw [Go.Deep.add_add] at h0 h1
          exact ⟨q, fun _ => ⟨⟨h0, h1⟩, hq⟩⟩
      · exact ⟨⟨0, 0⟩, fun k => absurd k hil⟩
    obtain ⟨Q, hQ⟩ : ∃ Q : Nat → LinkD, ∀ i, i < len → (w.cell? (x.add (i * 2 + 0)) = some (.int .i64 (Q i).a) ∧ w.cell? (x.add (i * 2 + 1)) = some (.int .i64 (Q i).b)) ∧ True := ⟨fun i => Classical.choose (key i), fun i => Classical.choose_spec (key i)⟩
    have hlen : ((List.range len).map Q).length = len := by rw [List.length_map, List.length_range]
    refine ⟨some x, m, (List.range len).map Q, by rw [hlen], fun hn => ?_, fun q hq => ?_, fun e => (by cases e), by rw [hlen]; exact hl, hm⟩
    · rw [hlen] at hn
      obtain ⟨b, o, sp⟩ := x
      have h00 := (hQ 0 hn).1.1
      have hs := World.cell?_spot h00
      have hs0 : sp = none := by simpa [Addr.add] using hs
      subst hs0
      rw [Addr.add_lit] at h00
      refine ⟨b, o, rfl, World.block_lt_of_cell? w _ h00, fun j q hq i v hv => ?_⟩
      obtain ⟨hj, he⟩ := List.getElem?_eq_some_iff.1 hq
      rw [hlen] at hj
      rw [List.getElem_map, List.getElem_range] at he
      have hsp := (hQ j hj).1
      rw [he, Addr.add_lit, Addr.add_lit] at hsp
      obtain ⟨s0, s1⟩ := hsp
      match i, hv with
      | 0, hv =>
        have hv' : v = .int .i64 q.a := by injection hv with hv; exact hv.symm
        rw [hv']
        show w.cell? ⟨b, o + j * 2 + 0, none⟩ = _
        rw [Nat.add_assoc]; exact s0
      | 1, hv =>
        have hv' : v = .int .i64 q.b := by injection hv with hv; exact hv.symm
        rw [hv']
        show w.cell? ⟨b, o + j * 2 + 1, none⟩ = _
        rw [Nat.add_assoc]; exact s1
      | i + 2, hv => exact absurd hv (by simp [NK])
    · obtain ⟨i, hi', rfl⟩ := List.mem_map.1 hq
      exact (hQ i (List.mem_range.1 hi')).2

set_option maxRecDepth 100000 in
theorem openW_askss {n : Nat} {v : Value} {y : DataW H × List MemPlace} (hf : DataW.trod enc Tryz.prog w 0 (fun _ => true) true n 24 [v] = some y) :
    ∃ (A : Option Addr) (c : Nat) (hs : List AH), v = .slice A hs.length c ∧ RowAt HK2 w w.heap.size A hs ∧ (∀ q ∈ hs, AsksAt w w.heap.size q.a q.c q.xs) ∧ (A = none → c = 0) ∧ hs.length ≤ c ∧ c ≤ maxLen := by
  rcases Go.Deep.open_slice Tryz.underlying24 hf with ⟨hcs, _⟩ | ⟨x, len, cap, m, n, D, Pl, hcs, _, hl, hm, hmm, _, hi⟩
  · injection hcs with hcs _
    subst hcs
    exact ⟨none, 0, [], rfl, RowAt.nil, fun q hq => (by cases hq), fun _ => rfl, Nat.zero_le _, Nat.zero_le _⟩
  · injection hcs with hcs _
    subst hcs
    have hme : m = cap := by simpa using hmm
    subst hme
    have key : ∀ i, ∃ q : AH, i < len → (w.cell? (x.add (i * 1 + 0)) = some (.slice q.a q.xs.length q.c)) ∧ AsksAt w w.heap.size q.a q.c q.xs := fun i => by
      by_cases hil : i < len
      · obtain ⟨cs', hc, ht⟩ := hi i (by omega)
        rw [cellsW_asks] at hc
        obtain ⟨_, hcl, hat⟩ := World.cells?_some hc
        match cs', hcl with
        | [x0], _ =>
          obtain ⟨q, rfl, hq⟩ := openW_asksH ht
          have h0 := hat 0 (by decide)
          rw [Go.Deep.add_add] at h0
          exact ⟨q, fun _ => ⟨h0, hq⟩⟩
      · exact ⟨⟨none, 0, []⟩, fun k => absurd k hil⟩
    obtain ⟨Q, hQ⟩ : ∃ Q : Nat → AH, ∀ i, i < len → (w.cell? (x.add (i * 1 + 0)) = some (.slice (Q i).a (Q i).xs.length (Q i).c)) ∧ AsksAt w w.heap.size (Q i).a (Q i).c (Q i).xs := ⟨fun i => Classical.choose (key i), fun i => Classical.choose_spec (key i)⟩
    have hlen : ((List.range len).map Q).length = len := by rw [List.length_map, List.length_range]
    refine ⟨some x, m, (List.range len).map Q, by rw [hlen], fun hn => ?_, fun q hq => ?_, fun e => (by cases e), by rw [hlen]; exact hl, hm⟩
    · rw [hlen] at hn
      obtain ⟨b, o, sp⟩ := x
      have h00 := (hQ 0 hn).1
      have hs := World.cell?_spot h00
      have hs0 : sp = none := by simpa [Addr.add] using hs
      subst hs0
      rw [Addr.add_lit] at h00
      refine ⟨b, o, rfl, World.block_lt_of_cell? w _ h00, fun j q hq i v hv => ?_⟩
      obtain ⟨hj, he⟩ := List.getElem?_eq_some_iff.1 hq
      rw [hlen] at hj
      rw [List.getElem_map, List.getElem_range] at he
      have hsp := (hQ j hj).1
      rw [he, Addr.add_lit] at hsp
      have s0 := hsp
      match i, hv with
      | 0, hv =>
        have hv' : v = .slice q.a q.xs.length q.c := by injection hv with hv; exact hv.symm
        rw [hv']
        show w.cell? ⟨b, o + j * 1 + 0, none⟩ = _
        rw [Nat.add_assoc]; exact s0
      | i + 1, hv => exact absurd hv (by simp [HK2])
    · obtain ⟨i, hi', rfl⟩ := List.mem_map.1 hq
      exact (hQ i (List.mem_range.1 hi')).2

set_option maxRecDepth 100000 in
theorem openW_pieces {n : Nat} {v : Value} {y : DataW H × List MemPlace} (hf : DataW.trod enc Tryz.prog w 0 (fun _ => true) true n 25 [v] = some y) :
    ∃ (A : Option Addr) (c : Nat) (hs : List QH), v = .slice A hs.length c ∧ RowAt QK w w.heap.size A hs ∧ (∀ q ∈ hs, QhAt w w.heap.size q) ∧ (A = none → c = 0) ∧ hs.length ≤ c ∧ c ≤ maxLen := by
  rcases Go.Deep.open_slice Tryz.underlying25 hf with ⟨hcs, _⟩ | ⟨x, len, cap, m, n, D, Pl, hcs, _, hl, hm, hmm, _, hi⟩
  · injection hcs with hcs _
    subst hcs
    exact ⟨none, 0, [], rfl, RowAt.nil, fun q hq => (by cases hq), fun _ => rfl, Nat.zero_le _, Nat.zero_le _⟩
  · injection hcs with hcs _
    subst hcs
    have hme : m = cap := by simpa using hmm
    subst hme
    have key : ∀ i, ∃ q : QH, i < len → (w.cell? (x.add (i * 6 + 0)) = some (.int .i64 q.p.fr) ∧ w.cell? (x.add (i * 6 + 1)) = some (.int .i64 q.p.to) ∧ w.cell? (x.add (i * 6 + 2)) = some (.int .i64 q.p.ln) ∧ w.cell? (x.add (i * 6 + 3)) = some (.int .i64 q.p.ix) ∧ w.cell? (x.add (i * 6 + 4)) = some (.string q.p.tx) ∧ w.cell? (x.add (i * 6 + 5)) = some (.slice q.a q.p.pf.length q.c)) ∧ QhAt w w.heap.size q := fun i => by
      by_cases hil : i < len
      · obtain ⟨cs', hc, ht⟩ := hi i (by omega)
        rw [cellsW_piece] at hc
        obtain ⟨_, hcl, hat⟩ := World.cells?_some hc
        match cs', hcl with
        | [x0, x1, x2, x3, x4, x5], _ =>
          obtain ⟨q, rfl, rfl, rfl, rfl, rfl, rfl, hq⟩ := openW_piece ht
          have h0 := hat 0 (by decide)
          have h1 := hat 1 (by decide)
          have h2 := hat 2 (by decide)
          have h3 := hat 3 (by decide)
          have h4 := hat 4 (by decide)
          have h5 := hat 5 (by decide)
          rw [Go.Deep.add_add] at h0 h1 h2 h3 h4 h5
          exact ⟨q, fun _ => ⟨⟨h0, h1, h2, h3, h4, h5⟩, hq⟩⟩
      · exact ⟨⟨zeroP, none, 0⟩, fun k => absurd k hil⟩
    obtain ⟨Q, hQ⟩ : ∃ Q : Nat → QH, ∀ i, i < len → (w.cell? (x.add (i * 6 + 0)) = some (.int .i64 (Q i).p.fr) ∧ w.cell? (x.add (i * 6 + 1)) = some (.int .i64 (Q i).p.to) ∧ w.cell? (x.add (i * 6 + 2)) = some (.int .i64 (Q i).p.ln) ∧ w.cell? (x.add (i * 6 + 3)) = some (.int .i64 (Q i).p.ix) ∧ w.cell? (x.add (i * 6 + 4)) = some (.string (Q i).p.tx) ∧ w.cell? (x.add (i * 6 + 5)) = some (.slice (Q i).a (Q i).p.pf.length (Q i).c)) ∧ QhAt w w.heap.size (Q i) := ⟨fun i => Classical.choose (key i), fun i => Classical.choose_spec (key i)⟩
    have hlen : ((List.range len).map Q).length = len := by rw [List.length_map, List.length_range]
    refine ⟨some x, m, (List.range len).map Q, by rw [hlen], fun hn => ?_, fun q hq => ?_, fun e => (by cases e), by rw [hlen]; exact hl, hm⟩
    · rw [hlen] at hn
      obtain ⟨b, o, sp⟩ := x
      have h00 := (hQ 0 hn).1.1
      have hs := World.cell?_spot h00
      have hs0 : sp = none := by simpa [Addr.add] using hs
      subst hs0
      rw [Addr.add_lit] at h00
      refine ⟨b, o, rfl, World.block_lt_of_cell? w _ h00, fun j q hq i v hv => ?_⟩
      obtain ⟨hj, he⟩ := List.getElem?_eq_some_iff.1 hq
      rw [hlen] at hj
      rw [List.getElem_map, List.getElem_range] at he
      have hsp := (hQ j hj).1
      rw [he, Addr.add_lit, Addr.add_lit, Addr.add_lit, Addr.add_lit, Addr.add_lit, Addr.add_lit] at hsp
      obtain ⟨s0, s1, s2, s3, s4, s5⟩ := hsp
      match i, hv with
      | 0, hv =>
        have hv' : v = .int .i64 q.p.fr := by injection hv with hv; exact hv.symm
        rw [hv']
        show w.cell? ⟨b, o + j * 6 + 0, none⟩ = _
        rw [Nat.add_assoc]; exact s0
      | 1, hv =>
        have hv' : v = .int .i64 q.p.to := by injection hv with hv; exact hv.symm
        rw [hv']
        show w.cell? ⟨b, o + j * 6 + 1, none⟩ = _
        rw [Nat.add_assoc]; exact s1
      | 2, hv =>
        have hv' : v = .int .i64 q.p.ln := by injection hv with hv; exact hv.symm
        rw [hv']
        show w.cell? ⟨b, o + j * 6 + 2, none⟩ = _
        rw [Nat.add_assoc]; exact s2
      | 3, hv =>
        have hv' : v = .int .i64 q.p.ix := by injection hv with hv; exact hv.symm
        rw [hv']
        show w.cell? ⟨b, o + j * 6 + 3, none⟩ = _
        rw [Nat.add_assoc]; exact s3
      | 4, hv =>
        have hv' : v = .string q.p.tx := by injection hv with hv; exact hv.symm
        rw [hv']
        show w.cell? ⟨b, o + j * 6 + 4, none⟩ = _
        rw [Nat.add_assoc]; exact s4
      | 5, hv =>
        have hv' : v = .slice q.a q.p.pf.length q.c := by injection hv with hv; exact hv.symm
        rw [hv']
        show w.cell? ⟨b, o + j * 6 + 5, none⟩ = _
        rw [Nat.add_assoc]; exact s5
      | i + 6, hv => exact absurd hv (by simp [QK])
    · obtain ⟨i, hi', rfl⟩ := List.mem_map.1 hq
      exact (hQ i (List.mem_range.1 hi')).2

set_option maxRecDepth 100000 in
/-- A run that came in. -/
theorem open_worldV {r0 : Reach} {b0 : Nat} {v : Value} {dt : DataW H} {pl : List MemPlace} (hv : Value.okWide Tryz.prog w r0 b0 27 v) (h : DataW.Trod enc Tryz.prog w 0 (fun _ => true) true 27 v dt pl) :
    ∃ (sec bad : Int) (r : WR) (ls : List LinkD), v = .agg #[.int .i64 sec, .int .i64 bad, .slice r.A1 r.fh.length r.c1, .slice r.A2 ls.length r.c2, .slice r.A3 r.ah.length r.c3, .slice r.A4 r.qh.length r.c4] ∧ RunAt w w.heap.size r ls := by
  obtain ⟨cs, rfl, hsz⟩ := okWide_struct Tryz.underlying27 hv
  obtain ⟨L⟩ := cs
  match L, hsz.trans cellsW_world with
  | [x0, x1, x2, x3, x4, x5], _ =>
    obtain ⟨fuel, hf⟩ := h
    obtain ⟨xs, n, _, hx, _, hlen, hg⟩ := DataW.trod_struct Tryz.underlying27 hf
    match xs, hlen with
    | [y0, y1, y2, y3, y4, y5], _ =>
      have g0 : DataW.trod enc Tryz.prog w 0 (fun _ => true) true n 3 [x0] = some y0 := by simpa [Value.cells, cellsW_int] using hg 0 _ rfl
      have g1 : DataW.trod enc Tryz.prog w 0 (fun _ => true) true n 3 [x1] = some y1 := by simpa [Value.cells, cellsW_int] using hg 1 _ rfl
      have g2 : DataW.trod enc Tryz.prog w 0 (fun _ => true) true n 22 [x2] = some y2 := by simpa [Value.cells, cellsW_int, cellsW_feeds] using hg 2 _ rfl
      have g3 : DataW.trod enc Tryz.prog w 0 (fun _ => true) true n 23 [x3] = some y3 := by simpa [Value.cells, cellsW_int, cellsW_feeds, cellsW_links] using hg 3 _ rfl
      have g4 : DataW.trod enc Tryz.prog w 0 (fun _ => true) true n 24 [x4] = some y4 := by simpa [Value.cells, cellsW_int, cellsW_feeds, cellsW_links, cellsW_askss] using hg 4 _ rfl
      have g5 : DataW.trod enc Tryz.prog w 0 (fun _ => true) true n 25 [x5] = some y5 := by simpa [Value.cells, cellsW_int, cellsW_feeds, cellsW_links, cellsW_askss, cellsW_pieces] using hg 5 _ rfl
      obtain ⟨sec, e0, _, w0⟩ := DataW.trod_int Tryz.underlying3 g0
      obtain ⟨bad, e1, _, w1⟩ := DataW.trod_int Tryz.underlying3 g1
      simp at e0 e1
      obtain ⟨A1, c1, fh, rfl, a1, a2, a3, a4, a5⟩ := openW_feeds g2
      obtain ⟨A2, c2, ls, rfl, b1, _, b3, b4, b5⟩ := openW_links g3
      obtain ⟨A3, c3, ah, rfl, d1, d2, d3, d4, d5⟩ := openW_askss g4
      obtain ⟨A4, c4, qh, rfl, f1, f2, f3, f4, f5⟩ := openW_pieces g5
      subst e0 e1
      exact ⟨sec, bad, ⟨A1, c1, fh, A2, c2, A3, c3, ah, A4, c4, qh⟩, ls, rfl, a1, b1, d1, f1, a2, d2, f2, Nat.le_trans a4 a5, Nat.le_trans b4 b5, Nat.le_trans d4 d5, Nat.le_trans f4 f5, a3, b3, d3, f3, a4, b4, d4, f4, a5, b5, d5, f5⟩
end
end Go.Proofs.YtkmebilhbjcfpaaGreat
