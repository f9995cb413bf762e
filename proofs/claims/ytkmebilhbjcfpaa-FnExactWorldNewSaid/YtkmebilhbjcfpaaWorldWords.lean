/- Runs in memory: rows of feeds, of connections, of lists of requests and of blocks in transit; a run as a value and how it lies. No conditions. -/
import Derived.Test.YtkmebilhbjcfpaaWorldData
import Derived.Test.YtkmebilhbjcfpaaRow
import Derived.Test.YtkmebilhbjcfpaaBlk
import Derived.Test.YtkmebilhbjcfpaaBaseH
namespace Go.Proofs.Ytkmebilhbjcfpaa
open Go.RowKit
set_option linter.unusedVariables false

/-! ### rows -/
/-- A feed with its slices. -/
structure FH where
  f : FD
  a1 : Option Addr
  c1 : Nat
  a2 : Option Addr
  c2 : Nat
/-- A list of requests with its slice. -/
structure AH where
  a : Option Addr
  c : Nat
  xs : List AD
/-- A block in transit with its proof's slice. -/
structure QH where
  p : PcD
  a : Option Addr
  c : Nat
abbrev fhV (h : FH) : Value := feedV h.f.p h.f.l h.f.d h.f.s h.a1 h.f.bs.length h.c1 h.a2 h.f.hs.length h.c2
abbrev lnkV (l : LinkD) : Value := .agg #[.int .i64 l.a, .int .i64 l.b]
abbrev ahV (h : AH) : Value := .slice h.a h.xs.length h.c
abbrev qhV (h : QH) : Value := .agg #[.int .i64 h.p.fr, .int .i64 h.p.to, .int .i64 h.p.ln, .int .i64 h.p.ix, .string h.p.tx, .slice h.a h.p.pf.length h.c]
def FK : Kind FH := ⟨39, 6, 80, fun h => [.int .i64 h.f.p, .int .i64 h.f.l, .int .i64 h.f.d, .int .i64 h.f.s, .slice h.a1 h.f.bs.length h.c1, .slice h.a2 h.f.hs.length h.c2], fun _ => rfl, fun h u hu => by
  simp only [List.mem_cons, List.not_mem_nil, or_false] at hu
  rcases hu with rfl | rfl | rfl | rfl | rfl | rfl <;> rfl, by decide⟩
def NK : Kind LinkD := ⟨55, 2, 16, fun l => [.int .i64 l.a, .int .i64 l.b], fun _ => rfl, fun r u hu => by
  simp only [List.mem_cons, List.not_mem_nil, or_false] at hu
  rcases hu with rfl | rfl <;> rfl, by decide⟩
def HK2 : Kind AH := ⟨51, 1, 24, fun h => [.slice h.a h.xs.length h.c], fun _ => rfl, fun h u hu => by
  rw [List.mem_singleton.1 hu]; rfl, by decide⟩
def QK : Kind QH := ⟨58, 6, 72, fun h => [.int .i64 h.p.fr, .int .i64 h.p.to, .int .i64 h.p.ln, .int .i64 h.p.ix, .string h.p.tx, .slice h.a h.p.pf.length h.c], fun _ => rfl, fun h u hu => by
  simp only [List.mem_cons, List.not_mem_nil, or_false] at hu
  rcases hu with rfl | rfl | rfl | rfl | rfl | rfl <;> rfl, by decide⟩
theorem feed_info : (Try.prog.info? 39).map (fun i => (i.zero, i.size, i.bytes)) = some (some (.agg #[.int .i64 0, .int .i64 0, .int .i64 0, .int .i64 0, .slice none 0 0, .slice none 0 0]), 6, 80) := by kernel_rfl
theorem link_info : (Try.prog.info? 55).map (fun i => (i.zero, i.size, i.bytes)) = some (some (.agg #[.int .i64 0, .int .i64 0]), 2, 16) := by kernel_rfl
theorem asks_info : (Try.prog.info? 51).map (fun i => (i.zero, i.size, i.bytes)) = some (some (.slice none 0 0), 1, 24) := by kernel_rfl
theorem piece_info : (Try.prog.info? 58).map (fun i => (i.zero, i.size, i.bytes)) = some (some (.agg #[.int .i64 0, .int .i64 0, .int .i64 0, .int .i64 0, .string ByteArray.empty, .slice none 0 0]), 6, 72) := by kernel_rfl
theorem app_info {α : Type} {K : Kind α} {z : Value} (h : (Try.prog.info? K.e).map (fun i => (i.zero, i.size, i.bytes)) = some (some z, K.k, K.by_)) (hz : z.cells.size = K.k) : ∃ i z, Try.prog.info? K.e = some i ∧ i.zero = some z ∧ i.size = K.k ∧ i.bytes = K.by_ ∧ z.cells.size = K.k := by
  obtain ⟨i0, hi0, hz0, hz1, hz2⟩ := info_parts h
  exact ⟨i0, _, hi0, hz0, hz1, hz2, hz⟩
theorem feed_app : ∃ i z, Try.prog.info? FK.e = some i ∧ i.zero = some z ∧ i.size = FK.k ∧ i.bytes = FK.by_ ∧ z.cells.size = FK.k := app_info feed_info rfl
theorem link_app : ∃ i z, Try.prog.info? NK.e = some i ∧ i.zero = some z ∧ i.size = NK.k ∧ i.bytes = NK.by_ ∧ z.cells.size = NK.k := app_info link_info rfl
theorem asks_app : ∃ i z, Try.prog.info? HK2.e = some i ∧ i.zero = some z ∧ i.size = HK2.k ∧ i.bytes = HK2.by_ ∧ z.cells.size = HK2.k := app_info asks_info rfl
theorem piece_app : ∃ i z, Try.prog.info? QK.e = some i ∧ i.zero = some z ∧ i.size = QK.k ∧ i.bytes = QK.by_ ∧ z.cells.size = QK.k := app_info piece_info rfl

def hfs (hs : List FH) : List FD := hs.map FH.f
def has (hs : List AH) : List (List AD) := hs.map AH.xs
def hps (hs : List QH) : List PcD := hs.map QH.p
def fhth (hs : List FH) (k : Nat) : FH := hs.getD k ⟨zeroF, none, 0, none, 0⟩
def ahth (hs : List AH) (k : Nat) : AH := hs.getD k ⟨none, 0, []⟩
def qhth (hs : List QH) (k : Nat) : QH := hs.getD k ⟨zeroP, none, 0⟩
theorem fhth_get (hs : List FH) (k : Nat) (h : k < hs.length) : hs[k]? = some (fhth hs k) := by
  unfold fhth; rw [List.getD_eq_getElem?_getD, List.getElem?_eq_getElem h]; rfl
theorem ahth_get (hs : List AH) (k : Nat) (h : k < hs.length) : hs[k]? = some (ahth hs k) := by
  unfold ahth; rw [List.getD_eq_getElem?_getD, List.getElem?_eq_getElem h]; rfl
theorem qhth_get (hs : List QH) (k : Nat) (h : k < hs.length) : hs[k]? = some (qhth hs k) := by
  unfold qhth; rw [List.getD_eq_getElem?_getD, List.getElem?_eq_getElem h]; rfl
theorem kth2_get (ls : List LinkD) (k : Nat) (h : k < ls.length) : ls[k]? = some (kth2 ls k) := by
  unfold kth2; rw [List.getD_eq_getElem?_getD, List.getElem?_eq_getElem h]; rfl
theorem getD_mem {α : Type} {l : List α} {k : Nat} {x : α} (h : l[k]? = some x) : x ∈ l := List.mem_of_getElem? h
theorem fth_hfs (hs : List FH) (k : Nat) : fth (hfs hs) k = (fhth hs k).f := by
  unfold fth hfs fhth
  rw [List.getD_eq_getElem?_getD, List.getD_eq_getElem?_getD, List.getElem?_map]
  cases hs[k]? <;> rfl
theorem wth_has (hs : List AH) (k : Nat) : wth (has hs) k = (ahth hs k).xs := by
  unfold wth has ahth
  rw [List.getD_eq_getElem?_getD, List.getD_eq_getElem?_getD, List.getElem?_map]
  cases hs[k]? <;> rfl
theorem pcth_hps (hs : List QH) (k : Nat) : pcth (hps hs) k = (qhth hs k).p := by
  unfold pcth hps qhth
  rw [List.getD_eq_getElem?_getD, List.getD_eq_getElem?_getD, List.getElem?_map]
  cases hs[k]? <;> rfl
theorem hfs_length (hs : List FH) : (hfs hs).length = hs.length := List.length_map _
theorem has_length (hs : List AH) : (has hs).length = hs.length := List.length_map _
theorem hps_length (hs : List QH) : (hps hs).length = hs.length := List.length_map _

/-! ### a run in memory -/
/-- A feed of a row lies in memory. -/
structure FhAt (w : World) (B : Nat) (h : FH) : Prop where
  feed : FeedAt w B h.a1 h.a2 h.f.bs h.f.hs
  n1 : h.a1 = none → h.c1 = 0
  n2 : h.a2 = none → h.c2 = 0
  le1 : h.f.bs.length ≤ h.c1 ∧ h.c1 ≤ maxLen
  le2 : h.f.hs.length ≤ h.c2 ∧ h.c2 ≤ maxLen
structure QhAt (w : World) (B : Nat) (h : QH) : Prop where
  ints : IntsAt w B h.a h.p.pf
  le : h.p.pf.length ≤ h.c
  most : h.c ≤ maxLen
  nil0 : h.a = none → h.c = 0
  tx : h.p.tx.size ≤ maxLen
/-- What stands in a run's value. -/
structure WR where
  A1 : Option Addr
  c1 : Nat
  fh : List FH
  A2 : Option Addr
  c2 : Nat
  A3 : Option Addr
  c3 : Nat
  ah : List AH
  A4 : Option Addr
  c4 : Nat
  qh : List QH
/-- The run that a representation stands for. -/
def dataW (sec bad : Int) (r : WR) (ls : List LinkD) : WD := ⟨sec, bad, hfs r.fh, ls, has r.ah, hps r.qh⟩
abbrev runV (sec bad : Int) (r : WR) (n2 : Nat) : Value := .agg #[.int .i64 sec, .int .i64 bad, .slice r.A1 r.fh.length r.c1, .slice r.A2 n2 r.c2, .slice r.A3 r.ah.length r.c3, .slice r.A4 r.qh.length r.c4]
/-- The four rows lie in memory, and what they name. -/
structure RunAt (w : World) (B : Nat) (r : WR) (ls : List LinkD) : Prop where
  r1 : RowAt FK w B r.A1 r.fh
  r2 : RowAt NK w B r.A2 ls
  r3 : RowAt HK2 w B r.A3 r.ah
  r4 : RowAt QK w B r.A4 r.qh
  f1 : ∀ h ∈ r.fh, FhAt w B h
  f3 : ∀ h ∈ r.ah, AsksAt w B h.a h.c h.xs
  f4 : ∀ h ∈ r.qh, QhAt w B h
  m1 : r.fh.length ≤ maxLen
  m2 : ls.length ≤ maxLen
  m3 : r.ah.length ≤ maxLen
  m4 : r.qh.length ≤ maxLen
  e1 : r.A1 = none → r.c1 = 0
  e2 : r.A2 = none → r.c2 = 0
  e3 : r.A3 = none → r.c3 = 0
  e4 : r.A4 = none → r.c4 = 0
  g1 : r.fh.length ≤ r.c1
  g2 : ls.length ≤ r.c2
  g3 : r.ah.length ≤ r.c3
  g4 : r.qh.length ≤ r.c4
  k1 : r.c1 ≤ maxLen
  k2 : r.c2 ≤ maxLen
  k3 : r.c3 ≤ maxLen
  k4 : r.c4 ≤ maxLen
section
variable {w w' : World} {B B' : Nat}
theorem FeedAt.keep {A1 A2 : Option Addr} {bs : List ByteArray} {hs : List Bool} (h : FeedAt w B A1 A2 bs hs) (hk : ∀ p : Addr, p.block < B → w'.cell? p = w.cell? p) : FeedAt w' B A1 A2 bs hs := ⟨h.strs.keep hk, h.bits.keep hk, h.fit, h.lb, h.lh⟩
theorem FhAt.keep {x : FH} (h : FhAt w B x) (hk : ∀ p : Addr, p.block < B → w'.cell? p = w.cell? p) : FhAt w' B x := ⟨h.feed.keep hk, h.n1, h.n2, h.le1, h.le2⟩
theorem FhAt.more {x : FH} (h : FhAt w B x) (hB : B ≤ B') : FhAt w B' x := ⟨h.feed.more hB, h.n1, h.n2, h.le1, h.le2⟩
theorem QhAt.keep {x : QH} (h : QhAt w B x) (hk : ∀ p : Addr, p.block < B → w'.cell? p = w.cell? p) : QhAt w' B x := ⟨h.ints.keep hk, h.le, h.most, h.nil0, h.tx⟩
theorem QhAt.more {x : QH} (h : QhAt w B x) (hB : B ≤ B') : QhAt w B' x := ⟨h.ints.more hB, h.le, h.most, h.nil0, h.tx⟩
theorem AsksAt.keep {A : Option Addr} {c : Nat} {xs : List AD} (h : AsksAt w B A c xs) (hk : ∀ p : Addr, p.block < B → w'.cell? p = w.cell? p) : AsksAt w' B A c xs := ⟨h.row.keep hk, h.le, h.most, h.nil0⟩
theorem AsksAt.more {A : Option Addr} {c : Nat} {xs : List AD} (h : AsksAt w B A c xs) (hB : B ≤ B') : AsksAt w B' A c xs := ⟨h.row.more hB, h.le, h.most, h.nil0⟩
variable {r : WR} {ls : List LinkD}
theorem RunAt.keep (h : RunAt w B r ls) (hk : ∀ p : Addr, p.block < B → w'.cell? p = w.cell? p) : RunAt w' B r ls :=
  ⟨h.r1.keep hk, h.r2.keep hk, h.r3.keep hk, h.r4.keep hk, fun x hx => (h.f1 x hx).keep hk, fun x hx => (h.f3 x hx).keep hk, fun x hx => (h.f4 x hx).keep hk, h.m1, h.m2, h.m3, h.m4, h.e1, h.e2, h.e3, h.e4, h.g1, h.g2, h.g3, h.g4, h.k1, h.k2, h.k3, h.k4⟩
theorem RunAt.more (h : RunAt w B r ls) (hB : B ≤ B') : RunAt w B' r ls :=
  ⟨h.r1.more hB, h.r2.more hB, h.r3.more hB, h.r4.more hB, fun x hx => (h.f1 x hx).more hB, fun x hx => (h.f3 x hx).more hB, fun x hx => (h.f4 x hx).more hB, h.m1, h.m2, h.m3, h.m4, h.e1, h.e2, h.e3, h.e4, h.g1, h.g2, h.g3, h.g4, h.k1, h.k2, h.k3, h.k4⟩
theorem RunAt.belowS (h : RunAt w w.heap.size r ls) (hb : Below w.heap.size w w') : RunAt w' w'.heap.size r ls := (h.keep fun p hp => hb.cell hp).more hb.size
theorem RunAt.below {C : Nat} (h : RunAt w B r ls) (hb : Below C w w') (hC : B ≤ C) : RunAt w' B r ls := h.keep fun p hp => hb.cell (by omega)
theorem RunAt.allocS (h : RunAt w w.heap.size r ls) (o : Obj) : RunAt (w.alloc o) (w.alloc o).heap.size r ls := h.belowS ((Below.refl _ w).alloc (Nat.le_refl _) o)
/-- The six cells of a feed of a row. -/
theorem feed_cells6 {b o : Nat} {hs : List FH} (h : RowAt FK w B (some ⟨b, o, none⟩) hs) (k : Nat) (hk : k < hs.length) :
    w.cell? ⟨b, o + k * 6, none⟩ = some (.int .i64 (fhth hs k).f.p) ∧ w.cell? ⟨b, o + k * 6 + 1, none⟩ = some (.int .i64 (fhth hs k).f.l) ∧ w.cell? ⟨b, o + k * 6 + 2, none⟩ = some (.int .i64 (fhth hs k).f.d) ∧ w.cell? ⟨b, o + k * 6 + 3, none⟩ = some (.int .i64 (fhth hs k).f.s) ∧
      w.cell? ⟨b, o + k * 6 + 4, none⟩ = some (.slice (fhth hs k).a1 (fhth hs k).f.bs.length (fhth hs k).c1) ∧ w.cell? ⟨b, o + k * 6 + 5, none⟩ = some (.slice (fhth hs k).a2 (fhth hs k).f.hs.length (fhth hs k).c2) := by
  have hc := (h.lt (by omega)).2 k (fhth hs k) (fhth_get hs k hk)
  exact ⟨hc 0 _ rfl, hc 1 _ rfl, hc 2 _ rfl, hc 3 _ rfl, hc 4 _ rfl, hc 5 _ rfl⟩
theorem link_cells2 {b o : Nat} {hs : List LinkD} (h : RowAt NK w B (some ⟨b, o, none⟩) hs) (k : Nat) (hk : k < hs.length) :
    w.cell? ⟨b, o + k * 2, none⟩ = some (.int .i64 (kth2 hs k).a) ∧ w.cell? ⟨b, o + k * 2 + 1, none⟩ = some (.int .i64 (kth2 hs k).b) := by
  have hc := (h.lt (by omega)).2 k (kth2 hs k) (kth2_get hs k hk)
  exact ⟨hc 0 _ rfl, hc 1 _ rfl⟩
theorem asks_cell1 {b o : Nat} {hs : List AH} (h : RowAt HK2 w B (some ⟨b, o, none⟩) hs) (k : Nat) (hk : k < hs.length) :
    w.cell? ⟨b, o + k, none⟩ = some (.slice (ahth hs k).a (ahth hs k).xs.length (ahth hs k).c) := by
  have := (h.lt (by omega)).2 k (ahth hs k) (ahth_get hs k hk) 0 _ rfl
  have e : o + k * HK2.k + 0 = o + k := by show o + k * 1 + 0 = o + k; omega
  rw [e] at this
  exact this
theorem piece_cells6 {b o : Nat} {hs : List QH} (h : RowAt QK w B (some ⟨b, o, none⟩) hs) (k : Nat) (hk : k < hs.length) :
    w.cell? ⟨b, o + k * 6, none⟩ = some (.int .i64 (qhth hs k).p.fr) ∧ w.cell? ⟨b, o + k * 6 + 1, none⟩ = some (.int .i64 (qhth hs k).p.to) ∧ w.cell? ⟨b, o + k * 6 + 2, none⟩ = some (.int .i64 (qhth hs k).p.ln) ∧ w.cell? ⟨b, o + k * 6 + 3, none⟩ = some (.int .i64 (qhth hs k).p.ix) ∧
      w.cell? ⟨b, o + k * 6 + 4, none⟩ = some (.string (qhth hs k).p.tx) ∧ w.cell? ⟨b, o + k * 6 + 5, none⟩ = some (.slice (qhth hs k).a (qhth hs k).p.pf.length (qhth hs k).c) := by
  have hc := (h.lt (by omega)).2 k (qhth hs k) (qhth_get hs k hk)
  exact ⟨hc 0 _ rfl, hc 1 _ rfl, hc 2 _ rfl, hc 3 _ rfl, hc 4 _ rfl, hc 5 _ rfl⟩
theorem RunAt.feed (h : RunAt w B r ls) (k : Nat) (hk : k < r.fh.length) : FhAt w B (fhth r.fh k) := h.f1 _ (getD_mem (fhth_get _ k hk))
theorem RunAt.asks (h : RunAt w B r ls) (k : Nat) (hk : k < r.ah.length) : AsksAt w B (ahth r.ah k).a (ahth r.ah k).c (ahth r.ah k).xs := h.f3 _ (getD_mem (ahth_get _ k hk))
theorem RunAt.piece (h : RunAt w B r ls) (k : Nat) (hk : k < r.qh.length) : QhAt w B (qhth r.qh k) := h.f4 _ (getD_mem (qhth_get _ k hk))
end
/-- The six cells of a run in a block of its own. -/
theorem run_cells {W : World} {g : Nat} {t : TypeId} {v0 v1 v2 v3 v4 v5 : Value} (h : Blk W g t #[v0, v1, v2, v3, v4, v5]) : W.cell? ⟨g, 0, none⟩ = some v0 ∧ W.cell? ⟨g, 1, none⟩ = some v1 ∧ W.cell? ⟨g, 2, none⟩ = some v2 ∧ W.cell? ⟨g, 3, none⟩ = some v3 ∧ W.cell? ⟨g, 4, none⟩ = some v4 ∧ W.cell? ⟨g, 5, none⟩ = some v5 :=
  ⟨h.cell 0, h.cell 1, h.cell 2, h.cell 3, h.cell 4, h.cell 5⟩
/-- What a function hands back that makes a run: it lies in memory, and nothing that was there is changed. -/
def RetRun (w : World) (W : WD) (e : Ending) (w' : World) : Prop :=
  ∃ r, e = .returned (runV W.sec W.bad r W.ls.length) ∧ dataW W.sec W.bad r W.ls = W ∧ RunAt w' w'.heap.size r W.ls ∧ Below w.heap.size w w'
end Go.Proofs.Ytkmebilhbjcfpaa
