/- Runs of a swarm as data: what a run is, when it is valid, and what the events, the quiet period and the reach make of it. No conditions. The plain mathematics of runs: every event and the quiet period keep a run valid. Conditions: as each statement says. Runs in memory: rows of feeds, of connections, of lists of requests and of blocks in transit; a run as a value and how it lies. No conditions. Th -/
import Derived.Test.YtkmebilhbjcfpaaGreatPutMath
import Derived.Test.YtkmebilhbjcfpaaGreatBaseG
import Derived.Test.YtkmebilhbjcfpaaGreatBaseE
import Derived.Test.YtkmebilhbjcfpaaGreatAsks
import Derived.Test.YtkmebilhbjcfpaaGreatRow
import Derived.Test.YtkmebilhbjcfpaaGreatBlk
import Derived.Test.YtkmebilhbjcfpaaGreatBaseH
namespace Go.Proofs.YtkmebilhbjcfpaaGreat
set_option linter.unusedVariables false

/-- A connection. -/
structure LinkD where
  a : Int
  b : Int
theorem LinkD.same {x y : LinkD} (h : x.a = y.a) (k : x.b = y.b) : x = y := by
  cases x; cases y; simp only at h k; rw [h, k]
def eqK (x y : LinkD) : Bool := x.a == y.a && x.b == y.b
theorem eqK_iff (x y : LinkD) : eqK x y = true ↔ x = y := by
  unfold eqK
  rw [Bool.and_eq_true, beq_iff_eq, beq_iff_eq]
  exact ⟨fun h => LinkD.same h.1 h.2, fun h => by rw [h]; exact ⟨rfl, rfl⟩⟩
/-- A block in transit. -/
structure PcD where
  fr : Int
  to : Int
  ln : Int
  ix : Int
  tx : ByteArray
  pf : List Int
/-- A run. -/
structure WD where
  sec : Int
  bad : Int
  fs : List FD
  ls : List LinkD
  aq : List (List AD)
  net : List PcD
def zeroP : PcD := ⟨0, 0, 0, 0, ByteArray.empty, []⟩
def zeroW : WD := ⟨0, 0, [], [], [], []⟩
def fth (fs : List FD) (k : Nat) : FD := fs.getD k zeroF
def kth2 (ls : List LinkD) (k : Nat) : LinkD := ls.getD k ⟨0, 0⟩
def wth (aq : List (List AD)) (k : Nat) : List AD := aq.getD k []
def pcth (ps : List PcD) (k : Nat) : PcD := ps.getD k zeroP

/-! ### when a run is valid -/
def newOk (sec n bad : Int) : Bool := keyB sec && decide ((1 ≤ n ∧ n ≤ 6) ∧ (bad = -1 ∨ (1 ≤ bad ∧ bad ≤ n - 1)))
theorem newOk_iff (sec n bad : Int) : newOk sec n bad = true ↔ (1 ≤ sec ∧ sec < 997) ∧ (1 ≤ n ∧ n ≤ 6) ∧ (bad = -1 ∨ (1 ≤ bad ∧ bad ≤ n - 1)) := by
  unfold newOk; rw [Bool.and_eq_true, keyB_iff, decide_eq_true_eq]
def newW (sec n bad : Int) : WD := ⟨sec, bad, List.replicate n.toNat (newF (publicOr sec)), [], List.replicate n.toNat [], []⟩
/-- The digests of so many first blocks of the writer. -/
def leavesW (W : WD) (n : Nat) : List Int := leafL ((fth W.fs 0).bs.take n)
/-- What a feed of a peer has to be. -/
structure FeedW (W : WD) (f : FD) : Prop where
  ok : okB f = true
  key : f.p = publicOr W.sec
  le : f.l ≤ (fth W.fs 0).l
  same : ∀ i, i < f.bs.length → bth f.hs i = true → textOr (sth f.bs i) = textOr (sth (fth W.fs 0).bs i)
  head : f.l = 0 ∨ (f.l = madeL W.sec (leavesW W f.l.toNat) ∧ f.d = madeD W.sec (leavesW W f.l.toNat) ∧ f.s = madeS W.sec (leavesW W f.l.toNat))
structure PieceW (W : WD) (p : PcD) : Prop where
  fr : 0 ≤ p.fr ∧ p.fr < W.fs.length
  to : 0 ≤ p.to ∧ p.to < W.fs.length
  ln : 1 ≤ p.ln ∧ p.ln ≤ (fth W.fs 0).l
  ix : 0 ≤ p.ix ∧ p.ix < p.ln
  tx : p.tx.size ≤ 8
  pf : p.pf = proofOr (leavesW W p.ln.toNat) p.ix
def ltK (x y : LinkD) : Prop := x.a < y.a ∨ (x.a = y.a ∧ x.b < y.b)
instance (x y : LinkD) : Decidable (ltK x y) := by unfold ltK; infer_instance
structure LinksW (n : Nat) (ls : List LinkD) : Prop where
  ok : ∀ l ∈ ls, 0 ≤ l.a ∧ l.a < l.b ∧ l.b < n
  asc : ls.Pairwise ltK
structure OkW (W : WD) : Prop where
  new : newOk W.sec W.fs.length W.bad = true
  ok0 : okB (fth W.fs 0) = true
  whole : noneF (fth W.fs 0).hs = true
  links : LinksW W.fs.length W.ls
  aslen : W.aq.length = W.fs.length
  netlen : W.net.length ≤ 12
  feeds : ∀ k, k < W.fs.length → FeedW W (fth W.fs k)
  wins : ∀ k, k < W.fs.length → winB (wth W.aq k) = true
  pieces : ∀ p ∈ W.net, PieceW W p

/-! ### the events -/
def growF (W : WD) (t : ByteArray) : FD :=
  let f := fth W.fs 0
  let zs := leafL (f.bs ++ [t])
  ⟨f.p, madeL W.sec zs, madeD W.sec zs, madeS W.sec zs, f.bs ++ [t], f.hs ++ [true]⟩
def growW (W : WD) (t : ByteArray) : WD :=
  if t.size ≤ 8 ∧ (fth W.fs 0).bs.length < 16 then { W with fs := W.fs.set 0 (growF W t) } else W
def linkedB (W : WD) (a b : Int) : Bool := W.ls.any (fun l => l.a == min a b && l.b == max a b)
def befK (x y : LinkD) : Bool := decide (ltK y x)
def insK (ls : List LinkD) (x : LinkD) : List LinkD := ls.takeWhile (befK x) ++ x :: ls.dropWhile (befK x)
def delK (ls : List LinkD) (x : LinkD) : List LinkD := ls.filter (fun l => !eqK l x)
def turnOk (W : WD) (a b : Int) (up : Bool) : Bool := decide (a ≠ b ∧ (0 ≤ min a b ∧ max a b < W.fs.length)) && (linkedB W a b != up)
def turnW (W : WD) (a b : Int) (up : Bool) : WD :=
  if turnOk W a b up = true then { W with ls := if up = true then insK W.ls ⟨min a b, max a b⟩ else delK W.ls ⟨min a b, max a b⟩ } else W
def headW (W : WD) (a b : Int) : WD :=
  let fa := fth W.fs a.toNat
  let fb := fth W.fs b.toNat
  let zs := growthOr (leavesW W fa.l.toNat) fb.l
  if linkedB W a b = true ∧ fb.l < fa.l ∧ codeZ fb fa.l fa.d fa.s zs = 0 then { W with fs := W.fs.set b.toNat (nextF fb fa.l fa.d fa.s) } else W
def hasF (f : FD) (i : Int) : Bool := decide (0 ≤ i ∧ i < f.hs.length) && bth f.hs i.toNat
def endB (f : FD) : Bool := decide ((f.hs.length : Int) - cntB f.hs ≤ 2)
def hasA (xs : List AD) (a : AD) : Bool := xs.any (isA a)
def askW (W : WD) (a b c : Int) : WD :=
  let fa := fth W.fs a.toNat
  let fb := fth W.fs b.toNat
  if linkedB W a b = true ∧ fa.l = fb.l ∧ hasF fb c = true ∧ bth fa.hs c.toNat = false ∧ askO (wth W.aq a.toNat) ⟨b, c⟩ (endB fa) = true then
    { W with aq := W.aq.set a.toNat (askR (wth W.aq a.toNat) ⟨b, c⟩ (endB fa)) } else W
def sentT (W : WD) (b c : Int) (t : ByteArray) : ByteArray := if b = W.bad then t else sth (fth W.fs b.toNat).bs c.toNat
def sentP (W : WD) (a b c : Int) (t : ByteArray) : PcD := ⟨b, a, (fth W.fs b.toNat).l, c, sentT W b c t, proofOr (leavesW W (fth W.fs b.toNat).l.toNat) c⟩
def answerW (W : WD) (a b c : Int) (t : ByteArray) : WD :=
  if linkedB W a b = true ∧ hasA (wth W.aq a.toNat) ⟨b, c⟩ = true ∧ hasF (fth W.fs b.toNat) c = true ∧ W.net.length < 12 ∧ (sentT W b c t).size ≤ 8 then
    { W with net := W.net ++ [sentP W a b c t] } else W
def loseW (W : WD) (k : Nat) : WD := { W with net := W.net.eraseIdx k }
/-- A block in transit arrives; W is the run in which it is no longer in transit. -/
def takeW (W : WD) (p : PcD) : WD :=
  let f := fth W.fs p.to.toNat
  let xs := wth W.aq p.to.toNat
  if hasA xs ⟨p.fr, p.ix⟩ = true ∧ f.l = p.ln then
    (if putOk f p.ix p.tx p.pf = true then { W with fs := W.fs.set p.to.toNat (putF f p.ix.toNat p.tx), aq := W.aq.set p.to.toNat (gotR xs ⟨p.fr, p.ix⟩) }
     else { W with aq := W.aq.set p.to.toNat (dropR xs p.fr) })
  else W
def netW (W : WD) (lose : Bool) (k : Int) : WD :=
  if 0 ≤ k ∧ k < W.net.length then (if lose = true then loseW W k.toNat else takeW (loseW W k.toNat) (pcth W.net k.toNat)) else W
/-- An event. -/
structure EvD where
  k : Int
  a : Int
  b : Int
  c : Int
  t : ByteArray
def stepW (W : WD) (e : EvD) : WD :=
  if e.k = 1 then growW W e.t
  else if e.k = 2 then turnW W e.a e.b true
  else if e.k = 3 then turnW W e.a e.b false
  else if e.k = 4 then headW W e.a e.b
  else if e.k = 5 then askW W e.a e.b e.c
  else if e.k = 6 then answerW W e.a e.b e.c e.t
  else if e.k = 7 then netW W false e.a
  else if e.k = 8 then netW W true e.a
  else W
def stepsW (W : WD) (es : List EvD) : WD := es.foldl stepW W

/-! ### the quiet period -/
/-- One block is given. -/
def giveB (W : WD) (a b : Int) (i : Nat) : WD :=
  let fa := fth W.fs a.toNat
  let fb := fth W.fs b.toNat
  if fb.l = fa.l ∧ bth fa.hs i = true ∧ bth fb.hs i = false then
    { W with fs := W.fs.set b.toNat (putR fb i (sth fa.bs i) (proofOr (leavesW W fa.l.toNat) i)) } else W
def giveN (W : WD) (a b : Int) (n : Nat) : WD := (List.range n).foldl (fun V i => giveB V a b i) W
def giveW (W : WD) (a b : Int) : WD :=
  if a = W.bad then W else giveN (headW W a b) a b (fth W.fs a.toNat).l.toNat
def quietW (W : WD) : WD := { W with net := [], aq := List.replicate W.aq.length [] }
def giveL (W : WD) (l : LinkD) : WD := giveW (giveW W l.a l.b) l.b l.a
def roundW (W : WD) (ls : List LinkD) : WD := ls.foldl giveL W
def roundsW (W : WD) (ls : List LinkD) : Nat → WD
  | 0 => W
  | k + 1 => roundW (roundsW W ls k) ls
def calmW (W : WD) : WD := roundsW (quietW W) W.ls W.fs.length

/-! ### the reach -/
def markL (bad : Int) (bs : List Bool) (l : LinkD) : List Bool :=
  let bs1 := if bth bs l.a.toNat = true ∧ l.a ≠ bad then bs.set l.b.toNat true else bs
  if bth bs1 l.b.toNat = true ∧ l.b ≠ bad then bs1.set l.a.toNat true else bs1
def marksL1 (bad : Int) (ls : List LinkD) (bs : List Bool) : List Bool := ls.foldl (markL bad) bs
def marksK (bad : Int) (ls : List LinkD) (bs : List Bool) : Nat → List Bool
  | 0 => bs
  | k + 1 => marksL1 bad ls (marksK bad ls bs k)
def begin0 (n : Nat) : List Bool := (List.replicate n false).set 0 true
def reachB (W : WD) : List Bool := marksK W.bad W.ls (begin0 W.fs.length) W.fs.length
def setsK (bs : List Bool) : Nat → List Int
  | 0 => []
  | k + 1 => setsK bs k ++ (if bth bs k = true then [(k : Int)] else [])
def reachW (W : WD) : List Int := setsK (reachB W) (reachB W).length
end Go.Proofs.YtkmebilhbjcfpaaGreat

namespace Go.Proofs.YtkmebilhbjcfpaaGreat
set_option linter.unusedVariables false

/-! ### lists -/
theorem fth_set (fs : List FD) (k j : Nat) (f : FD) (hk : k < fs.length) : fth (fs.set k f) j = if j = k then f else fth fs j := by
  unfold fth
  rw [List.getD_eq_getElem?_getD, List.getElem?_set, List.getD_eq_getElem?_getD]
  by_cases h : k = j
  · subst h; rw [if_pos rfl, if_pos hk, if_pos rfl]; rfl
  · rw [if_neg h, if_neg (fun e => h e.symm)]
theorem wth_set (aq : List (List AD)) (k j : Nat) (f : List AD) (hk : k < aq.length) : wth (aq.set k f) j = if j = k then f else wth aq j := by
  unfold wth
  rw [List.getD_eq_getElem?_getD, List.getElem?_set, List.getD_eq_getElem?_getD]
  by_cases h : k = j
  · subst h; rw [if_pos rfl, if_pos hk, if_pos rfl]; rfl
  · rw [if_neg h, if_neg (fun e => h e.symm)]
theorem pcth_mem (ps : List PcD) (k : Nat) (h : k < ps.length) : pcth ps k ∈ ps := by
  unfold pcth; rw [List.getD_eq_getElem?_getD, List.getElem?_eq_getElem h]; exact List.getElem_mem h
theorem fth_rep (n k : Nat) (f : FD) (h : k < n) : fth (List.replicate n f) k = f := by
  unfold fth; rw [List.getD_eq_getElem?_getD, List.getElem?_replicate, if_pos h]; rfl
theorem wth_rep (n k : Nat) : wth (List.replicate n []) k = [] := by
  unfold wth; rw [List.getD_eq_getElem?_getD, List.getElem?_replicate]; split <;> rfl
theorem fth_ge (fs : List FD) (k : Nat) (h : fs.length ≤ k) : fth fs k = zeroF := by
  unfold fth; rw [List.getD_eq_getElem?_getD, List.getElem?_eq_none h]; rfl
theorem sth_app (bs cs : List ByteArray) (i : Nat) (h : i < bs.length) : sth (bs ++ cs) i = sth bs i := by
  unfold sth; rw [List.getD_eq_getElem?_getD, List.getElem?_append_left h, List.getD_eq_getElem?_getD]
theorem bth_app (bs cs : List Bool) (i : Nat) (h : i < bs.length) : bth (bs ++ cs) i = bth bs i := by
  unfold bth; rw [List.getD_eq_getElem?_getD, List.getElem?_append_left h, List.getD_eq_getElem?_getD]
theorem bth_last (bs : List Bool) (x : Bool) : bth (bs ++ [x]) bs.length = x := by
  unfold bth; rw [List.getD_eq_getElem?_getD, List.getElem?_append_right (Nat.le_refl _), Nat.sub_self]; rfl
theorem bth_none (bs : List Bool) (i : Nat) (h : bs.length ≤ i) : bth bs i = false := by
  unfold bth; rw [List.getD_eq_getElem?_getD, List.getElem?_eq_none h]; rfl
theorem noneF_iff (hs : List Bool) : noneF hs = true ↔ ∀ k, k < hs.length → bth hs k = true := by unfold noneF; rw [decide_eq_true_eq]

/-! ### the writer -/
section
variable {W : WD}
theorem OkW.npos (h : OkW W) : 1 ≤ W.fs.length ∧ W.fs.length ≤ 6 := by
  have := ((newOk_iff _ _ _).1 h.new).2.1; omega
theorem OkW.sec_ok (h : OkW W) : 1 ≤ W.sec ∧ W.sec < 997 := ((newOk_iff _ _ _).1 h.new).1
theorem OkW.f0 (h : OkW W) : FeedW W (fth W.fs 0) := h.feeds 0 (by have := h.npos; omega)
theorem OkW.len0 (h : OkW W) : ((fth W.fs 0).bs.length : Int) = (fth W.fs 0).l ∧ ((fth W.fs 0).hs.length : Int) = (fth W.fs 0).l ∧ (fth W.fs 0).bs.length ≤ 16 := by
  have hf := (okB_iff _).1 h.ok0
  have := hf.len
  exact ⟨hf.2.2.1.1, hf.2.2.1.2, this.1⟩
theorem OkW.have0 (h : OkW W) (i : Nat) (hi : i < (fth W.fs 0).bs.length) : bth (fth W.fs 0).hs i = true :=
  (noneF_iff _).1 h.whole i (by have := h.len0; omega)
theorem leaves_take_ok {bs : List ByteArray} {hs : List Bool} (h : TextsOk bs hs) (h16 : bs.length ≤ 16) (k : Nat) : leavesB (leafL (bs.take k)) = true := by
  have := h.leaves h16
  obtain ⟨a, b⟩ := leavesB_yes this
  refine leavesB_of (by rw [leafL_length, List.length_take]; omega) fun z hz => ?_
  rw [leafL_take] at hz
  exact b z (List.mem_of_mem_take hz)
theorem OkW.leaves (h : OkW W) (k : Nat) (hk : k ≤ (fth W.fs 0).bs.length) : leavesB (leavesW W k) = true ∧ (leavesW W k).length = k := by
  have hf := (okB_iff _).1 h.ok0
  refine ⟨leaves_take_ok hf.2.2.2.1 hf.len.1 k, ?_⟩
  unfold leavesW
  rw [leafL_length, List.length_take]; omega
theorem nth_leaves (W : WD) (k i : Nat) (hk : k ≤ (fth W.fs 0).bs.length) (hi : i < k) : nth (leavesW W k) i = textOr (sth (fth W.fs 0).bs i) := by
  unfold leavesW
  rw [nth_leafL _ _ (by rw [List.length_take]; omega)]
  congr 1
  unfold sth
  rw [List.getD_eq_getElem?_getD, List.getElem?_take_of_lt hi, List.getD_eq_getElem?_getD]
/-- The head of so many first blocks. -/
theorem OkW.made (h : OkW W) (k : Nat) (hk : k ≤ (fth W.fs 0).bs.length) :
    madeL W.sec (leavesW W k) = k ∧ madeD W.sec (leavesW W k) = digestZ (leavesW W k) ∧ signedB (publicOr W.sec) k (digestZ (leavesW W k)) (madeS W.sec (leavesW W k)) = true ∧
      digestOr (leavesW W k) = digestZ (leavesW W k) := by
  obtain ⟨h1, h2⟩ := h.leaves k hk
  obtain ⟨e1, e2, e3⟩ := made_yes ((madeOk_iff W.sec (leavesW W k)).2 ⟨h.sec_ok, h1⟩)
  obtain ⟨h16, _, d0, d1⟩ := leaves_digest h1
  rw [h2] at e1 e3
  refine ⟨e1, e2, ?_, by unfold digestOr; rw [if_pos h1]⟩
  rw [e3]
  exact signed_made _ _ _ h.sec_ok ⟨by omega, by omega⟩ ⟨d0, d1⟩

/-! ### a feed of a peer -/
theorem FeedW.len {f : FD} (hf : FeedW W f) : (f.bs.length : Int) = f.l ∧ (f.hs.length : Int) = f.l ∧ f.hs.length = f.bs.length ∧ 0 ≤ f.l ∧ f.l ≤ 16 := by
  have k := (okB_iff _).1 hf.ok
  have := k.2.1.len
  exact ⟨k.2.2.1.1, k.2.2.1.2, by have := k.2.2.1; omega, this.1, this.2⟩
theorem FeedW.le0 {f : FD} (h : OkW W) (hf : FeedW W f) : f.bs.length ≤ (fth W.fs 0).bs.length := by
  have := hf.len; have := hf.le; have := h.len0; omega
/-- What a head that is longer than 0 says. -/
theorem FeedW.made {f : FD} (h : OkW W) (hf : FeedW W f) (hl : f.l ≠ 0) : f.d = digestZ (leavesW W f.l.toNat) ∧ f.s = madeS W.sec (leavesW W f.l.toNat) ∧ signedB f.p f.l f.d f.s = true := by
  have hlen := hf.len
  have hle := hf.le0 h
  obtain ⟨e1, e2, e3, e4⟩ := h.made f.l.toNat (by omega)
  rcases hf.head with k | k
  · exact absurd k hl
  · have hn : ((f.l.toNat : Nat) : Int) = f.l := by omega
    rw [hn] at e3
    refine ⟨by rw [k.2.1, e2], k.2.2, ?_⟩
    rw [hf.key, k.2.1, e2, k.2.2]
    exact e3
/-- Heads of one length, longer than 0, are one. -/
theorem FeedW.one {f g : FD} (h : OkW W) (hf : FeedW W f) (hg : FeedW W g) (e : f.l = g.l) (hl : f.l ≠ 0) : f.d = g.d ∧ f.s = g.s := by
  have a := hf.made h hl
  have b := hg.made h (by omega)
  rw [a.1, a.2.1, b.1, b.2.1, e]
  exact ⟨rfl, rfl⟩

/-! ### runs that are longer -/
/-- The writer of W' has all that the writer of W has. -/
structure Ext (W W' : WD) : Prop where
  sec : W'.sec = W.sec
  n : W'.fs.length = W.fs.length
  l : (fth W.fs 0).l ≤ (fth W'.fs 0).l
  bs : ∃ m, (fth W'.fs 0).bs = (fth W.fs 0).bs ++ m
theorem Ext.leaves {W W' : WD} (h : Ext W W') (k : Nat) (hk : k ≤ (fth W.fs 0).bs.length) : leavesW W' k = leavesW W k := by
  obtain ⟨m, e⟩ := h.bs
  unfold leavesW
  rw [e, List.take_append_of_le_length hk]
theorem Ext.feed {W W' : WD} (h : OkW W) (hE : Ext W W') {f : FD} (hf : FeedW W f) : FeedW W' f := by
  have hlen := hf.len
  have hle := hf.le0 h
  obtain ⟨m, e⟩ := hE.bs
  refine ⟨hf.ok, by rw [hE.sec]; exact hf.key, Int.le_trans hf.le hE.l, fun i hi hb => ?_, ?_⟩
  · rw [e, sth_app _ _ _ (by omega)]; exact hf.same i hi hb
  · rw [hE.sec, hE.leaves _ (by omega)]; exact hf.head
theorem Ext.piece {W W' : WD} (h : OkW W) (hE : Ext W W') {p : PcD} (hp : PieceW W p) : PieceW W' p := by
  have := h.len0
  have := hp.ln
  exact ⟨by rw [hE.n]; exact hp.fr, by rw [hE.n]; exact hp.to, ⟨hp.ln.1, Int.le_trans hp.ln.2 hE.l⟩, hp.ix, hp.tx, by rw [hE.leaves _ (by omega)]; exact hp.pf⟩
theorem Ext.same {W W' : WD} (hs : W'.sec = W.sec) (hn : W'.fs.length = W.fs.length) (h0 : fth W'.fs 0 = fth W.fs 0) : Ext W W' :=
  ⟨hs, hn, by rw [h0]; exact Int.le_refl _, [], by rw [h0, List.append_nil]⟩

/-- A run in which one feed, not the writer's, and one window are others. -/
theorem OkW.put (h : OkW W) {k : Nat} {f : FD} (hk0 : k ≠ 0) (hk : k < W.fs.length) (hf : FeedW W f) : OkW { W with fs := W.fs.set k f } := by
  have e0 : fth (W.fs.set k f) 0 = fth W.fs 0 := by rw [fth_set _ _ _ _ hk, if_neg (fun e => hk0 e.symm)]
  have hE : Ext W { W with fs := W.fs.set k f } := Ext.same rfl (List.length_set ..) e0
  refine ⟨by show newOk W.sec ((W.fs.set k f).length) W.bad = true; rw [List.length_set]; exact h.new, by show okB (fth (W.fs.set k f) 0) = true; rw [e0]; exact h.ok0, by show noneF (fth (W.fs.set k f) 0).hs = true; rw [e0]; exact h.whole, by show LinksW (W.fs.set k f).length W.ls; rw [List.length_set]; exact h.links, by show W.aq.length = (W.fs.set k f).length; rw [List.length_set]; exact h.aslen, h.netlen, fun j hj => ?_, fun j hj => h.wins j (by have : j < (W.fs.set k f).length := hj; rwa [List.length_set] at this), fun p hp => hE.piece h (h.pieces p hp)⟩
  have hj' : j < W.fs.length := by have : j < (W.fs.set k f).length := hj; rwa [List.length_set] at this
  show FeedW _ (fth (W.fs.set k f) j)
  rw [fth_set _ _ _ _ hk]
  split
  · exact hE.feed h hf
  · exact hE.feed h (h.feeds j hj')
theorem OkW.win (h : OkW W) {k : Nat} {xs : List AD} (hk : k < W.fs.length) (hx : winB xs = true) : OkW { W with aq := W.aq.set k xs } := by
  have hE : Ext W { W with aq := W.aq.set k xs } := Ext.same rfl rfl rfl
  refine ⟨h.new, h.ok0, h.whole, h.links, by show (W.aq.set k xs).length = W.fs.length; rw [List.length_set]; exact h.aslen, h.netlen, fun j hj => hE.feed h (h.feeds j hj), fun j hj => ?_, fun p hp => hE.piece h (h.pieces p hp)⟩
  show winB (wth (W.aq.set k xs) j) = true
  rw [wth_set _ _ _ _ (by rw [h.aslen]; exact hk)]
  split
  · exact hx
  · exact h.wins j hj
theorem OkW.nets (h : OkW W) {ps : List PcD} (hl : ps.length ≤ 12) (hp : ∀ p ∈ ps, PieceW W p) : OkW { W with net := ps } := by
  have hE : Ext W { W with net := ps } := Ext.same rfl rfl rfl
  exact ⟨h.new, h.ok0, h.whole, h.links, h.aslen, hl, fun j hj => hE.feed h (h.feeds j hj), h.wins, fun p k => hE.piece h (hp p k)⟩
theorem OkW.conn (h : OkW W) {ls : List LinkD} (hl : LinksW W.fs.length ls) : OkW { W with ls := ls } := by
  have hE : Ext W { W with ls := ls } := Ext.same rfl rfl rfl
  exact ⟨h.new, h.ok0, h.whole, hl, h.aslen, h.netlen, fun j hj => hE.feed h (h.feeds j hj), h.wins, fun p k => hE.piece h (h.pieces p k)⟩
end

/-! ### a new run -/
theorem okW_new {sec n bad : Int} (h : newOk sec n bad = true) : OkW (newW sec n bad) := by
  obtain ⟨h1, h2, h3⟩ := (newOk_iff _ _ _).1 h
  have hlen : (newW sec n bad).fs.length = n.toNat := List.length_replicate
  have e0 : ∀ k, k < n.toNat → fth (newW sec n bad).fs k = newF (publicOr sec) := fun k hk => fth_rep _ _ _ hk
  have hp := publicOr_bd h1
  have hok : okB (newF (publicOr sec)) = true := new_ok hp
  have hF : ∀ k, k < n.toNat → FeedW (newW sec n bad) (fth (newW sec n bad).fs k) := fun k hk => by
    rw [e0 k hk]
    exact ⟨hok, rfl, by rw [e0 0 (by omega)]; exact Int.le_refl _, fun i hi => absurd hi (Nat.not_lt_zero _), .inl rfl⟩
  refine ⟨by rw [hlen, show ((n.toNat : Nat) : Int) = n by omega]; exact h, by rw [e0 0 (by omega)]; exact hok, by rw [e0 0 (by omega)]; rfl, ⟨(fun l hl => by cases hl), .nil⟩, by rw [hlen]; exact List.length_replicate, Nat.zero_le _, fun k hk => hF k (by rwa [hlen] at hk), fun k hk => ?_, fun p hp => by cases hp⟩
  show winB (wth (List.replicate n.toNat []) k) = true
  rw [wth_rep]; rfl

/-! ### the writer grows -/
section
variable {W : WD}
theorem grow_feed (h : OkW W) {t : ByteArray} (ht : t.size ≤ 8) (hl : (fth W.fs 0).bs.length < 16) :
    okB (growF W t) = true ∧ noneF (growF W t).hs = true ∧ (growF W t).l = ((fth W.fs 0).bs.length + 1 : Nat) ∧ (growF W t).p = publicOr W.sec ∧
      (growF W t).d = madeD W.sec (leafL ((fth W.fs 0).bs ++ [t])) ∧ (growF W t).s = madeS W.sec (leafL ((fth W.fs 0).bs ++ [t])) ∧ signedB (growF W t).p (growF W t).l (growF W t).d (growF W t).s = true := by
  have hf := (okB_iff _).1 h.ok0
  have hlen := h.len0
  have htx : TextsOk ((fth W.fs 0).bs ++ [t]) ((fth W.fs 0).hs ++ [true]) := fun k hk => by
    rw [List.length_append] at hk
    have hk1 : k < (fth W.fs 0).bs.length + 1 := hk
    rcases Nat.lt_or_ge k (fth W.fs 0).bs.length with h1 | h1
    · rw [sth_app _ _ _ h1, bth_app _ _ _ (by omega)]; exact hf.2.2.2.1 k h1
    · have : k = (fth W.fs 0).bs.length := by omega
      subst this
      refine ⟨?_, .inr ?_⟩
      · unfold sth; rw [List.getD_eq_getElem?_getD, List.getElem?_append_right (Nat.le_refl _), Nat.sub_self]; exact ht
      · rw [show (fth W.fs 0).bs.length = (fth W.fs 0).hs.length by omega]; exact bth_last _ _
  have hlv : leavesB (leafL ((fth W.fs 0).bs ++ [t])) = true := htx.leaves (by rw [List.length_append]; show _ + 1 ≤ 16; omega)
  have hll : (leafL ((fth W.fs 0).bs ++ [t])).length = (fth W.fs 0).bs.length + 1 := by rw [leafL_length, List.length_append]; rfl
  obtain ⟨e1, e2, e3⟩ := made_yes ((madeOk_iff W.sec _).2 ⟨h.sec_ok, hlv⟩)
  obtain ⟨h16, _, d0, d1⟩ := leaves_digest hlv
  rw [hll] at e1 e3
  have hsg : signedB (publicOr W.sec) ((fth W.fs 0).bs.length + 1 : Nat) (madeD W.sec (leafL ((fth W.fs 0).bs ++ [t]))) (madeS W.sec (leafL ((fth W.fs 0).bs ++ [t]))) = true := by
    rw [e2, e3]
    exact signed_made _ _ _ h.sec_ok ⟨by omega, by omega⟩ ⟨d0, d1⟩
  have hkey := h.f0.key
  have hall : noneF ((fth W.fs 0).hs ++ [true]) = true := (noneF_iff _).2 fun k hk => by
    rw [List.length_append] at hk
    have hk1 : k < (fth W.fs 0).hs.length + 1 := hk
    rcases Nat.lt_or_ge k (fth W.fs 0).hs.length with h1 | h1
    · rw [bth_app _ _ _ h1]; exact (noneF_iff _).1 h.whole k h1
    · have : k = (fth W.fs 0).hs.length := by omega
      subst this; exact bth_last _ _
  refine ⟨okB_yes ⟨?_, .inr ?_, ⟨?_, ?_⟩, htx, fun _ => ?_⟩, hall, e1, hkey, rfl, rfl, ?_⟩
  · show 1 ≤ (fth W.fs 0).p ∧ (fth W.fs 0).p < 997; exact hf.1
  · show signedB (fth W.fs 0).p (madeL W.sec _) _ _ = true; rw [e1, hkey]; exact hsg
  · show (((fth W.fs 0).bs ++ [t]).length : Int) = madeL W.sec _; rw [e1, List.length_append]; rfl
  · show (((fth W.fs 0).hs ++ [true]).length : Int) = madeL W.sec _; rw [e1, List.length_append]; show (((fth W.fs 0).hs.length + 1 : Nat) : Int) = _; omega
  · show digestOr (leafL ((fth W.fs 0).bs ++ [t])) = madeD W.sec _; unfold digestOr; rw [if_pos hlv, e2]
  · show signedB (fth W.fs 0).p (madeL W.sec _) _ _ = true; rw [e1, hkey]; exact hsg
theorem okW_grow (h : OkW W) (t : ByteArray) : OkW (growW W t) := by
  unfold growW
  split
  · rename_i hc
    obtain ⟨ht, hl⟩ := hc
    obtain ⟨g1, g2, g3, g4, g5, g6, _⟩ := grow_feed h ht hl
    have hn := h.npos
    have hlen := h.len0
    have e0 : fth (W.fs.set 0 (growF W t)) 0 = growF W t := by rw [fth_set _ _ _ _ (by omega), if_pos rfl]
    have hE : Ext W { W with fs := W.fs.set 0 (growF W t) } := ⟨rfl, List.length_set .., by show (fth W.fs 0).l ≤ (fth (W.fs.set 0 (growF W t)) 0).l; rw [e0, g3]; omega, [t], by show (fth (W.fs.set 0 (growF W t)) 0).bs = _; rw [e0]; rfl⟩
    have hF0 : FeedW { W with fs := W.fs.set 0 (growF W t) } (growF W t) := by
      refine ⟨g1, g4, by show _ ≤ (fth (W.fs.set 0 (growF W t)) 0).l; rw [e0]; exact Int.le_refl _, fun i _ _ => by show _ = textOr (sth (fth (W.fs.set 0 (growF W t)) 0).bs i); rw [e0], .inr ?_⟩
      have hz : leavesW { W with fs := W.fs.set 0 (growF W t) } (growF W t).l.toNat = leafL ((fth W.fs 0).bs ++ [t]) := by
        unfold leavesW
        show leafL ((fth (W.fs.set 0 (growF W t)) 0).bs.take _) = _
        rw [e0, g3]
        show leafL (((fth W.fs 0).bs ++ [t]).take _) = _
        rw [List.take_of_length_le (by rw [List.length_append]; show _ + 1 ≤ _; omega)]
      rw [hz]
      exact ⟨rfl, rfl, rfl⟩
    refine ⟨by show newOk W.sec ((W.fs.set 0 _).length) W.bad = true; rw [List.length_set]; exact h.new, by show okB (fth (W.fs.set 0 _) 0) = true; rw [e0]; exact g1, by show noneF (fth (W.fs.set 0 _) 0).hs = true; rw [e0]; exact g2, by show LinksW (W.fs.set 0 _).length W.ls; rw [List.length_set]; exact h.links, by show W.aq.length = (W.fs.set 0 _).length; rw [List.length_set]; exact h.aslen, h.netlen, fun j hj => ?_, fun j hj => h.wins j (by have : j < (W.fs.set 0 (growF W t)).length := hj; rwa [List.length_set] at this), fun p hp => hE.piece h (h.pieces p hp)⟩
    have hj' : j < W.fs.length := by have : j < (W.fs.set 0 (growF W t)).length := hj; rwa [List.length_set] at this
    show FeedW _ (fth (W.fs.set 0 (growF W t)) j)
    rw [fth_set _ _ _ _ (by omega)]
    split
    · exact hF0
    · exact hE.feed h (h.feeds j hj')
  · exact h
end
end Go.Proofs.YtkmebilhbjcfpaaGreat

namespace Go.Proofs.YtkmebilhbjcfpaaGreat
open Go.RowKit
set_option linter.unusedVariables false

/-! ### rows -/
/-- A feed with its slices. -/
structure FH where
  f : FD
  a1 : Option Addr
  c1 : Nat
  a2 : Option Addr
  c2 : Nat
/-- A list of requests with its slice. -/
structure AH where
  a : Option Addr
  c : Nat
  xs : List AD
/-- A block in transit with its proof's slice. -/
structure QH where
  p : PcD
  a : Option Addr
  c : Nat
abbrev fhV (h : FH) : Value := feedV h.f.p h.f.l h.f.d h.f.s h.a1 h.f.bs.length h.c1 h.a2 h.f.hs.length h.c2
abbrev lnkV (l : LinkD) : Value := .agg #[.int .i64 l.a, .int .i64 l.b]
abbrev ahV (h : AH) : Value := .slice h.a h.xs.length h.c
abbrev qhV (h : QH) : Value := .agg #[.int .i64 h.p.fr, .int .i64 h.p.to, .int .i64 h.p.ln, .int .i64 h.p.ix, .string h.p.tx, .slice h.a h.p.pf.length h.c]
def FK : Kind FH := ⟨56, 6, 80, fun h => [.int .i64 h.f.p, .int .i64 h.f.l, .int .i64 h.f.d, .int .i64 h.f.s, .slice h.a1 h.f.bs.length h.c1, .slice h.a2 h.f.hs.length h.c2], fun _ => rfl, fun h u hu => by
  simp only [List.mem_cons, List.not_mem_nil, or_false] at hu
  rcases hu with rfl | rfl | rfl | rfl | rfl | rfl <;> rfl, by decide⟩
def NK : Kind LinkD := ⟨73, 2, 16, fun l => [.int .i64 l.a, .int .i64 l.b], fun _ => rfl, fun r u hu => by
  simp only [List.mem_cons, List.not_mem_nil, or_false] at hu
  rcases hu with rfl | rfl <;> rfl, by decide⟩
def HK2 : Kind AH := ⟨59, 1, 24, fun h => [.slice h.a h.xs.length h.c], fun _ => rfl, fun h u hu => by
  rw [List.mem_singleton.1 hu]; rfl, by decide⟩
def QK : Kind QH := ⟨62, 6, 72, fun h => [.int .i64 h.p.fr, .int .i64 h.p.to, .int .i64 h.p.ln, .int .i64 h.p.ix, .string h.p.tx, .slice h.a h.p.pf.length h.c], fun _ => rfl, fun h u hu => by
  simp only [List.mem_cons, List.not_mem_nil, or_false] at hu
  rcases hu with rfl | rfl | rfl | rfl | rfl | rfl <;> rfl, by decide⟩
theorem feed_info : (Tryz.prog.info? 56).map (fun i => (i.zero, i.size, i.bytes)) = some (some (.agg #[.int .i64 0, .int .i64 0, .int .i64 0, .int .i64 0, .slice none 0 0, .slice none 0 0]), 6, 80) := by kernel_rfl
theorem link_info : (Tryz.prog.info? 73).map (fun i => (i.zero, i.size, i.bytes)) = some (some (.agg #[.int .i64 0, .int .i64 0]), 2, 16) := by kernel_rfl
theorem asks_info : (Tryz.prog.info? 59).map (fun i => (i.zero, i.size, i.bytes)) = some (some (.slice none 0 0), 1, 24) := by kernel_rfl
theorem piece_info : (Tryz.prog.info? 62).map (fun i => (i.zero, i.size, i.bytes)) = some (some (.agg #[.int .i64 0, .int .i64 0, .int .i64 0, .int .i64 0, .string ByteArray.empty, .slice none 0 0]), 6, 72) := by kernel_rfl
theorem app_info {α : Type} {K : Kind α} {z : Value} (h : (Tryz.prog.info? K.e).map (fun i => (i.zero, i.size, i.bytes)) = some (some z, K.k, K.by_)) (hz : z.cells.size = K.k) : ∃ i z, Tryz.prog.info? K.e = some i ∧ i.zero = some z ∧ i.size = K.k ∧ i.bytes = K.by_ ∧ z.cells.size = K.k := by
  obtain ⟨i0, hi0, hz0, hz1, hz2⟩ := info_parts h
  exact ⟨i0, _, hi0, hz0, hz1, hz2, hz⟩
theorem feed_app : ∃ i z, Tryz.prog.info? FK.e = some i ∧ i.zero = some z ∧ i.size = FK.k ∧ i.bytes = FK.by_ ∧ z.cells.size = FK.k := app_info feed_info rfl
theorem link_app : ∃ i z, Tryz.prog.info? NK.e = some i ∧ i.zero = some z ∧ i.size = NK.k ∧ i.bytes = NK.by_ ∧ z.cells.size = NK.k := app_info link_info rfl
theorem asks_app : ∃ i z, Tryz.prog.info? HK2.e = some i ∧ i.zero = some z ∧ i.size = HK2.k ∧ i.bytes = HK2.by_ ∧ z.cells.size = HK2.k := app_info asks_info rfl
theorem piece_app : ∃ i z, Tryz.prog.info? QK.e = some i ∧ i.zero = some z ∧ i.size = QK.k ∧ i.bytes = QK.by_ ∧ z.cells.size = QK.k := app_info piece_info rfl

def hfs (hs : List FH) : List FD := hs.map FH.f
def has (hs : List AH) : List (List AD) := hs.map AH.xs
def hps (hs : List QH) : List PcD := hs.map QH.p
def fhth (hs : List FH) (k : Nat) : FH := hs.getD k ⟨zeroF, none, 0, none, 0⟩
def ahth (hs : List AH) (k : Nat) : AH := hs.getD k ⟨none, 0, []⟩
def qhth (hs : List QH) (k : Nat) : QH := hs.getD k ⟨zeroP, none, 0⟩
theorem fhth_get (hs : List FH) (k : Nat) (h : k < hs.length) : hs[k]? = some (fhth hs k) := by
  unfold fhth; rw [List.getD_eq_getElem?_getD, List.getElem?_eq_getElem h]; rfl
theorem ahth_get (hs : List AH) (k : Nat) (h : k < hs.length) : hs[k]? = some (ahth hs k) := by
  unfold ahth; rw [List.getD_eq_getElem?_getD, List.getElem?_eq_getElem h]; rfl
theorem qhth_get (hs : List QH) (k : Nat) (h : k < hs.length) : hs[k]? = some (qhth hs k) := by
  unfold qhth; rw [List.getD_eq_getElem?_getD, List.getElem?_eq_getElem h]; rfl
theorem kth2_get (ls : List LinkD) (k : Nat) (h : k < ls.length) : ls[k]? = some (kth2 ls k) := by
  unfold kth2; rw [List.getD_eq_getElem?_getD, List.getElem?_eq_getElem h]; rfl
theorem getD_mem {α : Type} {l : List α} {k : Nat} {x : α} (h : l[k]? = some x) : x ∈ l := List.mem_of_getElem? h
theorem fth_hfs (hs : List FH) (k : Nat) : fth (hfs hs) k = (fhth hs k).f := by
  unfold fth hfs fhth
  rw [List.getD_eq_getElem?_getD, List.getD_eq_getElem?_getD, List.getElem?_map]
  cases hs[k]? <;> rfl
theorem wth_has (hs : List AH) (k : Nat) : wth (has hs) k = (ahth hs k).xs := by
  unfold wth has ahth
  rw [List.getD_eq_getElem?_getD, List.getD_eq_getElem?_getD, List.getElem?_map]
  cases hs[k]? <;> rfl
theorem pcth_hps (hs : List QH) (k : Nat) : pcth (hps hs) k = (qhth hs k).p := by
  unfold pcth hps qhth
  rw [List.getD_eq_getElem?_getD, List.getD_eq_getElem?_getD, List.getElem?_map]
  cases hs[k]? <;> rfl
theorem hfs_length (hs : List FH) : (hfs hs).length = hs.length := List.length_map _
theorem has_length (hs : List AH) : (has hs).length = hs.length := List.length_map _
theorem hps_length (hs : List QH) : (hps hs).length = hs.length := List.length_map _

/-! ### a run in memory -/
/-- A feed of a row lies in memory. -/
structure FhAt (w : World) (B : Nat) (h : FH) : Prop where
  feed : FeedAt w B h.a1 h.a2 h.f.bs h.f.hs
  n1 : h.a1 = none → h.c1 = 0
  n2 : h.a2 = none → h.c2 = 0
  le1 : h.f.bs.length ≤ h.c1 ∧ h.c1 ≤ maxLen
  le2 : h.f.hs.length ≤ h.c2 ∧ h.c2 ≤ maxLen
structure QhAt (w : World) (B : Nat) (h : QH) : Prop where
  ints : IntsAt w B h.a h.p.pf
  le : h.p.pf.length ≤ h.c
  most : h.c ≤ maxLen
  nil0 : h.a = none → h.c = 0
  tx : h.p.tx.size ≤ maxLen
/-- What stands in a run's value. -/
structure WR where
  A1 : Option Addr
  c1 : Nat
  fh : List FH
  A2 : Option Addr
  c2 : Nat
  A3 : Option Addr
  c3 : Nat
  ah : List AH
  A4 : Option Addr
  c4 : Nat
  qh : List QH
/-- The run that a representation stands for. -/
def dataW (sec bad : Int) (r : WR) (ls : List LinkD) : WD := ⟨sec, bad, hfs r.fh, ls, has r.ah, hps r.qh⟩
abbrev runV (sec bad : Int) (r : WR) (n2 : Nat) : Value := .agg #[.int .i64 sec, .int .i64 bad, .slice r.A1 r.fh.length r.c1, .slice r.A2 n2 r.c2, .slice r.A3 r.ah.length r.c3, .slice r.A4 r.qh.length r.c4]
/-- The four rows lie in memory, and what they name. -/
structure RunAt (w : World) (B : Nat) (r : WR) (ls : List LinkD) : Prop where
  r1 : RowAt FK w B r.A1 r.fh
  r2 : RowAt NK w B r.A2 ls
  r3 : RowAt HK2 w B r.A3 r.ah
  r4 : RowAt QK w B r.A4 r.qh
  f1 : ∀ h ∈ r.fh, FhAt w B h
  f3 : ∀ h ∈ r.ah, AsksAt w B h.a h.c h.xs
  f4 : ∀ h ∈ r.qh, QhAt w B h
  m1 : r.fh.length ≤ maxLen
  m2 : ls.length ≤ maxLen
  m3 : r.ah.length ≤ maxLen
  m4 : r.qh.length ≤ maxLen
  e1 : r.A1 = none → r.c1 = 0
  e2 : r.A2 = none → r.c2 = 0
  e3 : r.A3 = none → r.c3 = 0
  e4 : r.A4 = none → r.c4 = 0
  g1 : r.fh.length ≤ r.c1
  g2 : ls.length ≤ r.c2
  g3 : r.ah.length ≤ r.c3
  g4 : r.qh.length ≤ r.c4
  k1 : r.c1 ≤ maxLen
  k2 : r.c2 ≤ maxLen
  k3 : r.c3 ≤ maxLen
  k4 : r.c4 ≤ maxLen
section
variable {w w' : World} {B B' : Nat}
theorem FeedAt.keep {A1 A2 : Option Addr} {bs : List ByteArray} {hs : List Bool} (h : FeedAt w B A1 A2 bs hs) (hk : ∀ p : Addr, p.block < B → w'.cell? p = w.cell? p) : FeedAt w' B A1 A2 bs hs := ⟨h.strs.keep hk, h.bits.keep hk, h.fit, h.lb, h.lh⟩
theorem FhAt.keep {x : FH} (h : FhAt w B x) (hk : ∀ p : Addr, p.block < B → w'.cell? p = w.cell? p) : FhAt w' B x := ⟨h.feed.keep hk, h.n1, h.n2, h.le1, h.le2⟩
theorem FhAt.more {x : FH} (h : FhAt w B x) (hB : B ≤ B') : FhAt w B' x := ⟨h.feed.more hB, h.n1, h.n2, h.le1, h.le2⟩
theorem QhAt.keep {x : QH} (h : QhAt w B x) (hk : ∀ p : Addr, p.block < B → w'.cell? p = w.cell? p) : QhAt w' B x := ⟨h.ints.keep hk, h.le, h.most, h.nil0, h.tx⟩
theorem QhAt.more {x : QH} (h : QhAt w B x) (hB : B ≤ B') : QhAt w B' x := ⟨h.ints.more hB, h.le, h.most, h.nil0, h.tx⟩
theorem AsksAt.keep {A : Option Addr} {c : Nat} {xs : List AD} (h : AsksAt w B A c xs) (hk : ∀ p : Addr, p.block < B → w'.cell? p = w.cell? p) : AsksAt w' B A c xs := ⟨h.row.keep hk, h.le, h.most, h.nil0⟩
theorem AsksAt.more {A : Option Addr} {c : Nat} {xs : List AD} (h : AsksAt w B A c xs) (hB : B ≤ B') : AsksAt w B' A c xs := ⟨h.row.more hB, h.le, h.most, h.nil0⟩
variable {r : WR} {ls : List LinkD}
theorem RunAt.keep (h : RunAt w B r ls) (hk : ∀ p : Addr, p.block < B → w'.cell? p = w.cell? p) : RunAt w' B r ls :=
  ⟨h.r1.keep hk, h.r2.keep hk, h.r3.keep hk, h.r4.keep hk, fun x hx => (h.f1 x hx).keep hk, fun x hx => (h.f3 x hx).keep hk, fun x hx => (h.f4 x hx).keep hk, h.m1, h.m2, h.m3, h.m4, h.e1, h.e2, h.e3, h.e4, h.g1, h.g2, h.g3, h.g4, h.k1, h.k2, h.k3, h.k4⟩
theorem RunAt.more (h : RunAt w B r ls) (hB : B ≤ B') : RunAt w B' r ls :=
  ⟨h.r1.more hB, h.r2.more hB, h.r3.more hB, h.r4.more hB, fun x hx => (h.f1 x hx).more hB, fun x hx => (h.f3 x hx).more hB, fun x hx => (h.f4 x hx).more hB, h.m1, h.m2, h.m3, h.m4, h.e1, h.e2, h.e3, h.e4, h.g1, h.g2, h.g3, h.g4, h.k1, h.k2, h.k3, h.k4⟩
theorem RunAt.belowS (h : RunAt w w.heap.size r ls) (hb : Below w.heap.size w w') : RunAt w' w'.heap.size r ls := (h.keep fun p hp => hb.cell hp).more hb.size
theorem RunAt.below {C : Nat} (h : RunAt w B r ls) (hb : Below C w w') (hC : B ≤ C) : RunAt w' B r ls := h.keep fun p hp => hb.cell (by omega)
theorem RunAt.allocS (h : RunAt w w.heap.size r ls) (o : Obj) : RunAt (w.alloc o) (w.alloc o).heap.size r ls := h.belowS ((Below.refl _ w).alloc (Nat.le_refl _) o)
/-- The six cells of a feed of a row. -/
theorem feed_cells6 {b o : Nat} {hs : List FH} (h : RowAt FK w B (some ⟨b, o, none⟩) hs) (k : Nat) (hk : k < hs.length) :
    w.cell? ⟨b, o + k * 6, none⟩ = some (.int .i64 (fhth hs k).f.p) ∧ w.cell? ⟨b, o + k * 6 + 1, none⟩ = some (.int .i64 (fhth hs k).f.l) ∧ w.cell? ⟨b, o + k * 6 + 2, none⟩ = some (.int .i64 (fhth hs k).f.d) ∧ w.cell? ⟨b, o + k * 6 + 3, none⟩ = some (.int .i64 (fhth hs k).f.s) ∧
      w.cell? ⟨b, o + k * 6 + 4, none⟩ = some (.slice (fhth hs k).a1 (fhth hs k).f.bs.length (fhth hs k).c1) ∧ w.cell? ⟨b, o + k * 6 + 5, none⟩ = some (.slice (fhth hs k).a2 (fhth hs k).f.hs.length (fhth hs k).c2) := by
  have hc := (h.lt (by omega)).2 k (fhth hs k) (fhth_get hs k hk)
  exact ⟨hc 0 _ rfl, hc 1 _ rfl, hc 2 _ rfl, hc 3 _ rfl, hc 4 _ rfl, hc 5 _ rfl⟩
theorem link_cells2 {b o : Nat} {hs : List LinkD} (h : RowAt NK w B (some ⟨b, o, none⟩) hs) (k : Nat) (hk : k < hs.length) :
    w.cell? ⟨b, o + k * 2, none⟩ = some (.int .i64 (kth2 hs k).a) ∧ w.cell? ⟨b, o + k * 2 + 1, none⟩ = some (.int .i64 (kth2 hs k).b) := by
  have hc := (h.lt (by omega)).2 k (kth2 hs k) (kth2_get hs k hk)
  exact ⟨hc 0 _ rfl, hc 1 _ rfl⟩
theorem asks_cell1 {b o : Nat} {hs : List AH} (h : RowAt HK2 w B (some ⟨b, o, none⟩) hs) (k : Nat) (hk : k < hs.length) :
    w.cell? ⟨b, o + k, none⟩ = some (.slice (ahth hs k).a (ahth hs k).xs.length (ahth hs k).c) := by
  have := (h.lt (by omega)).2 k (ahth hs k) (ahth_get hs k hk) 0 _ rfl
  have e : o + k * HK2.k + 0 = o + k := by show o + k * 1 + 0 = o + k; omega
  rw [e] at this
  exact this
theorem piece_cells6 {b o : Nat} {hs : List QH} (h : RowAt QK w B (some ⟨b, o, none⟩) hs) (k : Nat) (hk : k < hs.length) :
    w.cell? ⟨b, o + k * 6, none⟩ = some (.int .i64 (qhth hs k).p.fr) ∧ w.cell? ⟨b, o + k * 6 + 1, none⟩ = some (.int .i64 (qhth hs k).p.to) ∧ w.cell? ⟨b, o + k * 6 + 2, none⟩ = some (.int .i64 (qhth hs k).p.ln) ∧ w.cell? ⟨b, o + k * 6 + 3, none⟩ = some (.int .i64 (qhth hs k).p.ix) ∧
      w.cell? ⟨b, o + k * 6 + 4, none⟩ = some (.string (qhth hs k).p.tx) ∧ w.cell? ⟨b, o + k * 6 + 5, none⟩ = some (.slice (qhth hs k).a (qhth hs k).p.pf.length (qhth hs k).c) := by
  have hc := (h.lt (by omega)).2 k (qhth hs k) (qhth_get hs k hk)
  exact ⟨hc 0 _ rfl, hc 1 _ rfl, hc 2 _ rfl, hc 3 _ rfl, hc 4 _ rfl, hc 5 _ rfl⟩
theorem RunAt.feed (h : RunAt w B r ls) (k : Nat) (hk : k < r.fh.length) : FhAt w B (fhth r.fh k) := h.f1 _ (getD_mem (fhth_get _ k hk))
theorem RunAt.asks (h : RunAt w B r ls) (k : Nat) (hk : k < r.ah.length) : AsksAt w B (ahth r.ah k).a (ahth r.ah k).c (ahth r.ah k).xs := h.f3 _ (getD_mem (ahth_get _ k hk))
theorem RunAt.piece (h : RunAt w B r ls) (k : Nat) (hk : k < r.qh.length) : QhAt w B (qhth r.qh k) := h.f4 _ (getD_mem (qhth_get _ k hk))
end
/-- The six cells of a run in a block of its own. -/
theorem run_cells {W : World} {g : Nat} {t : TypeId} {v0 v1 v2 v3 v4 v5 : Value} (h : Blk W g t #[v0, v1, v2, v3, v4, v5]) : W.cell? ⟨g, 0, none⟩ = some v0 ∧ W.cell? ⟨g, 1, none⟩ = some v1 ∧ W.cell? ⟨g, 2, none⟩ = some v2 ∧ W.cell? ⟨g, 3, none⟩ = some v3 ∧ W.cell? ⟨g, 4, none⟩ = some v4 ∧ W.cell? ⟨g, 5, none⟩ = some v5 :=
  ⟨h.cell 0, h.cell 1, h.cell 2, h.cell 3, h.cell 4, h.cell 5⟩
/-- What a function hands back that makes a run: it lies in memory, and nothing that was there is changed. -/
def RetRun (w : World) (W : WD) (e : Ending) (w' : World) : Prop :=
  ∃ r, e = .returned (runV W.sec W.bad r W.ls.length) ∧ dataW W.sec W.bad r W.ls = W ∧ RunAt w' w'.heap.size r W.ls ∧ Below w.heap.size w w'
end Go.Proofs.YtkmebilhbjcfpaaGreat

namespace Go.Proofs.YtkmebilhbjcfpaaGreat
set_option linter.unusedVariables false

/-! ### connections -/
theorem ltK_trans {x y z : LinkD} (h : ltK x y) (k : ltK y z) : ltK x z := by unfold ltK at *; omega
theorem ltK_irr (x : LinkD) : ¬ ltK x x := by unfold ltK; omega
theorem ltK_tot {x y : LinkD} (h : ¬ ltK x y) (hne : x ≠ y) : ltK y x := by
  unfold ltK at *
  by_cases e : x.a = y.a
  · by_cases e2 : x.b = y.b
    · exact absurd (LinkD.same e e2) hne
    · omega
  · omega
theorem links_ins {n : Nat} {ls : List LinkD} {x : LinkD} (h : LinksW n ls) (hx : 0 ≤ x.a ∧ x.a < x.b ∧ x.b < n) (hno : ∀ l ∈ ls, l ≠ x) : LinksW n (insK ls x) := by
  have hbeh : ∀ (ms : List LinkD), ms.Pairwise ltK → (∀ l ∈ ms, l ≠ x) → ∀ l ∈ ms.dropWhile (befK x), ltK x l := by
    intro ms hp hn
    induction ms with
    | nil => intro l hl; cases hl
    | cons m ms ih =>
      rw [List.pairwise_cons] at hp
      rw [List.dropWhile_cons]
      split
      · exact ih hp.2 fun l hl => hn l (List.mem_cons_of_mem _ hl)
      · rename_i hb
        have hm : ltK x m := ltK_tot (fun k => hb (by unfold befK; exact decide_eq_true k)) (hn m List.mem_cons_self)
        intro l hl
        rcases List.mem_cons.1 hl with rfl | hl
        · exact hm
        · exact ltK_trans hm (hp.1 l hl)
  have hbef : ∀ l ∈ ls.takeWhile (befK x), ltK l x := fun l hl => by
    have := List.all_eq_true.1 (List.all_takeWhile (p := befK x) (l := ls)) l hl
    unfold befK at this
    exact of_decide_eq_true this
  refine ⟨fun l hl => ?_, ?_⟩
  · unfold insK at hl
    rcases List.mem_append.1 hl with hl | hl
    · exact h.ok l ((List.takeWhile_sublist _).subset hl)
    · rcases List.mem_cons.1 hl with rfl | hl
      · exact hx
      · exact h.ok l ((List.dropWhile_sublist _).subset hl)
  · unfold insK
    rw [List.pairwise_append]
    refine ⟨h.asc.sublist (List.takeWhile_sublist _), List.pairwise_cons.2 ⟨fun l hl => hbeh ls h.asc hno l hl, h.asc.sublist (List.dropWhile_sublist _)⟩, fun a ha b hb => ?_⟩
    rcases List.mem_cons.1 hb with rfl | hb
    · exact hbef a ha
    · exact ltK_trans (hbef a ha) (hbeh ls h.asc hno b hb)
theorem links_del {n : Nat} {ls : List LinkD} (h : LinksW n ls) (x : LinkD) : LinksW n (delK ls x) :=
  ⟨fun l hl => h.ok l (List.mem_filter.1 hl).1, h.asc.sublist List.filter_sublist⟩
theorem linked_iff (W : WD) (a b : Int) : linkedB W a b = true ↔ (⟨min a b, max a b⟩ : LinkD) ∈ W.ls := by
  unfold linkedB
  rw [List.any_eq_true]
  constructor
  · rintro ⟨l, hl, h⟩
    rw [Bool.and_eq_true, beq_iff_eq, beq_iff_eq] at h
    have : l = ⟨min a b, max a b⟩ := LinkD.same h.1 h.2
    rw [← this]; exact hl
  · intro h
    exact ⟨_, h, by rw [Bool.and_eq_true, beq_iff_eq, beq_iff_eq]; exact ⟨rfl, rfl⟩⟩
theorem turnOk_iff (W : WD) (a b : Int) (up : Bool) : turnOk W a b up = true ↔ (a ≠ b ∧ (0 ≤ min a b ∧ max a b < W.fs.length)) ∧ linkedB W a b ≠ up := by
  unfold turnOk; rw [Bool.and_eq_true, decide_eq_true_eq, bne_iff_ne]
section
variable {W : WD}
theorem okW_turn (h : OkW W) (a b : Int) (up : Bool) : OkW (turnW W a b up) := by
  unfold turnW
  split
  · rename_i hc
    obtain ⟨h1, h2⟩ := (turnOk_iff _ _ _ _).1 hc
    refine h.conn ?_
    cases up with
    | false => exact links_del h.links _
    | true =>
      refine links_ins h.links ⟨h1.2.1, by show min a b < max a b; omega, h1.2.2⟩ fun l hl e => h2 ?_
      subst e
      exact (linked_iff W a b).2 hl
  · exact h
/-- Connected peers exist, and are two. -/
theorem OkW.linked (h : OkW W) {a b : Int} (hl : linkedB W a b = true) : (0 ≤ a ∧ a < W.fs.length) ∧ (0 ≤ b ∧ b < W.fs.length) ∧ a ≠ b := by
  have := h.links.ok _ ((linked_iff W a b).1 hl)
  simp only at this
  omega

/-! ### heads -/
theorem next_feed (h : OkW W) {f g : FD} (hf : FeedW W f) (hg : FeedW W g) (hlt : g.l < f.l) : FeedW W (nextF g f.l f.d f.s) := by
  have gl := hg.len
  have fl := hf.len
  have hm := hf.made h (by omega)
  have hsg : signedB g.p f.l f.d f.s = true := by rw [hg.key, ← hf.key]; exact hm.2.2
  refine ⟨next_ok hg.ok hsg hlt, hg.key, hf.le, fun i hi hb => ?_, .inr ?_⟩
  · have hb' : bth (longB g.hs f.l.toNat) i = true := hb
    rw [bth_longB] at hb'
    have hi2 : i < g.hs.length := by
      rcases Nat.lt_or_ge i g.hs.length with k | k
      · exact k
      · rw [bth_none _ _ k] at hb'; cases hb'
    show textOr (sth (longS g.bs f.l.toNat) i) = _
    rw [sth_longS]
    exact hg.same i (by omega) hb'
  · show f.l = madeL W.sec (leavesW W f.l.toNat) ∧ f.d = madeD W.sec (leavesW W f.l.toNat) ∧ f.s = madeS W.sec (leavesW W f.l.toNat)
    rcases hf.head with k | k
    · omega
    · exact k
/-- The head of a peer is accepted by one with a shorter head. -/
theorem head_code (h : OkW W) {f g : FD} (hf : FeedW W f) (hg : FeedW W g) (hlt : g.l < f.l) : codeZ g f.l f.d f.s (growthOr (leavesW W f.l.toNat) g.l) = 0 := by
  have gl := hg.len
  have fl := hf.len
  have hm := hf.made h (by omega)
  have hsg : signedB g.p f.l f.d f.s = true := by rw [hg.key, ← hf.key]; exact hm.2.2
  refine code0 hg.ok hsg (by omega) hlt ?_
  by_cases h0 : g.l ≤ 0
  · exact .inl h0
  · right
    have hgm := hg.made h (by omega)
    have hle := hf.le0 h
    obtain ⟨v1, v2⟩ := h.leaves f.l.toNat (by omega)
    obtain ⟨h16, hd⟩ := leavesB_yes v1
    have := growth_accept (leavesW W f.l.toNat) g.l.toNat h16 (by omega) hd
    have e1 : (leavesW W f.l.toNat).take g.l.toNat = leavesW W g.l.toNat := by
      unfold leavesW
      rw [← leafL_take, List.take_take, show min g.l.toNat f.l.toNat = g.l.toNat by omega]
    rw [e1, v2, ← hgm.1, ← hm.1, show ((g.l.toNat : Nat) : Int) = g.l by omega, show ((f.l.toNat : Nat) : Int) = f.l by omega] at this
    have e2 : growthOr (leavesW W f.l.toNat) g.l = growthZ (leavesW W f.l.toNat) g.l.toNat := by
      have := growthOr_yes v1 (m := g.l.toNat) (by omega)
      rwa [show ((g.l.toNat : Nat) : Int) = g.l by omega] at this
    rw [e2]
    exact this
/-- What giving a head does. -/
theorem headW_eq (h : OkW W) {a b : Int} (hl : linkedB W a b = true) : headW W a b = if (fth W.fs b.toNat).l < (fth W.fs a.toNat).l then { W with fs := W.fs.set b.toNat (nextF (fth W.fs b.toNat) (fth W.fs a.toNat).l (fth W.fs a.toNat).d (fth W.fs a.toNat).s) } else W := by
  obtain ⟨ha, hb, _⟩ := h.linked hl
  unfold headW
  by_cases hlt : (fth W.fs b.toNat).l < (fth W.fs a.toNat).l
  · have hc := head_code h (h.feeds a.toNat (by omega)) (h.feeds b.toNat (by omega)) hlt
    rw [if_pos hlt]
    simp only [hl, hlt, hc, true_and, if_true]
  · rw [if_neg hlt]
    simp only [hl, hlt, false_and, and_false, if_false]
theorem headW_no {a b : Int} (hl : linkedB W a b = false) : headW W a b = W := by unfold headW; simp only [hl, Bool.false_eq_true, false_and, if_false]
theorem okW_head (h : OkW W) (a b : Int) : OkW (headW W a b) := by
  cases hl : linkedB W a b with
  | false => rw [headW_no hl]; exact h
  | true =>
    rw [headW_eq h hl]
    obtain ⟨ha, hb, _⟩ := h.linked hl
    split
    · rename_i hlt
      have hfa := h.feeds a.toNat (by omega)
      refine h.put (fun e => ?_) (by omega) (next_feed h hfa (h.feeds b.toNat (by omega)) hlt)
      rw [e] at hlt
      have := hfa.le
      omega
    · exact h

/-! ### requests -/
theorem okW_ask (h : OkW W) (a b c : Int) : OkW (askW W a b c) := by
  unfold askW
  dsimp only
  split
  · rename_i hc
    obtain ⟨ha, hb, _⟩ := h.linked hc.1
    refine h.win (by omega) ?_
    rw [askR_yes hc.2.2.2.2]
    exact win_ask hc.2.2.2.2
  · exact h
theorem hasF_iff (f : FD) (i : Int) : hasF f i = true ↔ (0 ≤ i ∧ i < f.hs.length) ∧ bth f.hs i.toNat = true := by unfold hasF; rw [Bool.and_eq_true, decide_eq_true_eq]
theorem sent_piece (h : OkW W) {a b c : Int} {t : ByteArray} (hl : linkedB W a b = true) (hh : hasF (fth W.fs b.toNat) c = true) (ht : (sentT W b c t).size ≤ 8) : PieceW W (sentP W a b c t) := by
  obtain ⟨ha, hb, _⟩ := h.linked hl
  have hf := h.feeds b.toNat (by omega)
  have hlen := hf.len
  have hc := (hasF_iff _ _).1 hh
  exact ⟨hb, ha, ⟨by show 1 ≤ (fth W.fs b.toNat).l; omega, hf.le⟩, ⟨hc.1.1, by show c < (fth W.fs b.toNat).l; omega⟩, ht, rfl⟩
theorem okW_answer (h : OkW W) (a b c : Int) (t : ByteArray) : OkW (answerW W a b c t) := by
  unfold answerW
  split
  · rename_i hc
    refine h.nets (by rw [List.length_append]; have := hc.2.2.2.1; show _ + 1 ≤ 12; omega) fun p hp => ?_
    rcases List.mem_append.1 hp with hp | hp
    · exact h.pieces p hp
    · rw [List.mem_singleton] at hp
      subst hp
      exact sent_piece h hc.1 hc.2.2.1 hc.2.2.2.2
  · exact h

/-! ### blocks -/
/-- A feed whose blocks are all there has the digests of the writer. -/
theorem whole_leaves (h : OkW W) {f : FD} (hlen : (f.bs.length : Int) = f.l ∧ (f.hs.length : Int) = f.l) (hle : f.l ≤ (fth W.fs 0).l) (hs : ∀ i, i < f.bs.length → bth f.hs i = true → textOr (sth f.bs i) = textOr (sth (fth W.fs 0).bs i)) (hw : wholeB f.hs = true) : leafL f.bs = leavesW W f.l.toNat := by
  have h0 := h.len0
  have hk := ((wholeB_iff _).1 hw).2
  refine List.ext_getElem (by rw [leafL_length, (h.leaves f.l.toNat (by omega)).2]; omega) fun i h1 h2 => ?_
  have hi : i < f.bs.length := by rwa [leafL_length] at h1
  have a := nth_leafL f.bs i hi
  have b := nth_leaves W f.l.toNat i (by omega) (by omega)
  unfold nth at a b
  rw [List.getD_eq_getElem?_getD, List.getElem?_eq_getElem h1] at a
  rw [List.getD_eq_getElem?_getD, List.getElem?_eq_getElem h2] at b
  simp only [Option.getD_some] at a b
  rw [a, b]
  exact hs i hi (hk i (by omega))
/-- A block that the peer lacks, with the writer's digest. -/
theorem put_feed (h : OkW W) {f : FD} (hf : FeedW W f) {i : Nat} (hi : i < f.bs.length) {t : ByteArray} (ht : t.size ≤ 8) (he : textOr t = textOr (sth (fth W.fs 0).bs i)) : FeedW W (putF f i t) := by
  have hlen := hf.len
  have hk := (okB_iff _).1 hf.ok
  have hS : ∀ j, j < (f.bs.set i t).length → bth (f.hs.set i true) j = true → textOr (sth (f.bs.set i t) j) = textOr (sth (fth W.fs 0).bs j) := fun j hj hb => by
    rw [List.length_set] at hj
    rw [sth_set' _ _ _ _ hi]
    rw [bth_set' _ _ _ _ (by omega)] at hb
    split
    · rename_i e; subst e; exact he
    · rename_i e; rw [if_neg e] at hb; exact hf.same j hj hb
  refine ⟨okB_yes ⟨hk.1, hk.2.1, ⟨by show ((f.bs.set i t).length : Int) = f.l; rw [List.length_set]; exact hlen.1, by show ((f.hs.set i true).length : Int) = f.l; rw [List.length_set]; exact hlen.2.1⟩, fun j hj => ?_, fun hw => ?_⟩, hf.key, hf.le, hS, hf.head⟩
  · have hj' : j < f.bs.length := by have : j < (f.bs.set i t).length := hj; rwa [List.length_set] at this
    show (sth (f.bs.set i t) j).size ≤ 8 ∧ (sth (f.bs.set i t) j = ByteArray.empty ∨ bth (f.hs.set i true) j = true)
    rw [sth_set' _ _ _ _ hi, bth_set' _ _ _ _ (by omega)]
    split
    · exact ⟨ht, .inr rfl⟩
    · exact hk.2.2.2.1 j hj'
  · have e := whole_leaves h (f := putF f i t) ⟨by show ((f.bs.set i t).length : Int) = f.l; rw [List.length_set]; exact hlen.1, by show ((f.hs.set i true).length : Int) = f.l; rw [List.length_set]; exact hlen.2.1⟩ hf.le hS hw
    have hm := hf.made h (by omega)
    rw [e]
    show digestOr (leavesW W f.l.toNat) = f.d
    rw [hm.1]
    exact (h.made f.l.toNat (by have := hf.le0 h; omega)).2.2.2
/-- What a proof of a block of the writer says of a text. -/
theorem piece_digest (h : OkW W) {f : FD} (hf : FeedW W f) {i : Nat} (hi : i < f.bs.length) (x : Int) :
    treeOkB f.d f.l (i : Int) x (proofOr (leavesW W f.l.toNat) (i : Int)) = decide (x = textOr (sth (fth W.fs 0).bs i)) := by
  have hlen := hf.len
  have hle := hf.le0 h
  have hm := hf.made h (by omega)
  obtain ⟨v1, v2⟩ := h.leaves f.l.toNat (by omega)
  obtain ⟨h16, hd⟩ := leavesB_yes v1
  have hp := proof_ok (leavesW W f.l.toNat) i h16 (by omega) hd
  rw [v2, show ((f.l.toNat : Nat) : Int) = f.l by omega, nth_leaves W _ i (by omega) (by omega), ← hm.1] at hp
  have e : proofOr (leavesW W f.l.toNat) (i : Int) = proofZ (leavesW W f.l.toNat) i := proofOr_yes v1 (by omega)
  rw [e]
  by_cases hx : x = textOr (sth (fth W.fs 0).bs i)
  · rw [decide_eq_true hx, hx]; exact hp
  · rw [decide_eq_false hx]; exact ok_leaf hp hx
theorem put_ok (h : OkW W) {f : FD} (hf : FeedW W f) {i : Nat} (hi : i < f.bs.length) (hb : bth f.hs i = false) {t : ByteArray} (ht : t.size ≤ 8) (he : textOr t = textOr (sth (fth W.fs 0).bs i)) : putOk f (i : Int) t (proofOr (leavesW W f.l.toNat) (i : Int)) = true := by
  have hlen := hf.len
  refine (putOk_iff _ _ _ _).2 ⟨hf.ok, ht, (lacksB_iff _ _).2 ⟨by omega, by omega, by rw [Int.toNat_natCast]; exact hb⟩, by rw [piece_digest h hf hi, decide_eq_true he], ?_⟩
  rw [Int.toNat_natCast]
  exact (put_feed h hf hi ht he).ok
theorem put_facts (h : OkW W) {f : FD} (hf : FeedW W f) {i : Int} {t : ByteArray} {zs : List Int} (hk : putOk f i t zs = true) (hz : zs = proofOr (leavesW W f.l.toNat) i) : 0 ≤ i ∧ i.toNat < f.bs.length ∧ bth f.hs i.toNat = false ∧ t.size ≤ 8 ∧ textOr t = textOr (sth (fth W.fs 0).bs i.toNat) ∧ FeedW W (putF f i.toNat t) := by
  have hlen := hf.len
  obtain ⟨_, ht, hl, htr, _⟩ := (putOk_iff _ _ _ _).1 hk
  obtain ⟨h0, h1, h2⟩ := (lacksB_iff _ _).1 hl
  have hi : i.toNat < f.bs.length := by omega
  rw [hz, show i = ((i.toNat : Nat) : Int) by omega, piece_digest h hf hi] at htr
  have he := of_decide_eq_true htr
  exact ⟨h0, hi, h2, ht, he, put_feed h hf hi ht he⟩
theorem okW_lose (h : OkW W) (k : Nat) : OkW (loseW W k) :=
  h.nets (by have := h.netlen; have := (List.eraseIdx_sublist W.net k).length_le; omega) fun p hp => h.pieces p ((List.eraseIdx_sublist W.net k).subset hp)
theorem got_win {xs : List AD} (h : winB xs = true) (a : AD) : winB (gotR xs a) = true := by
  unfold gotR
  split
  · split
    · exact win_filter h _
    · exact h
  · rfl
theorem drop_win {xs : List AD} (h : winB xs = true) (p : Int) : winB (dropR xs p) = true := by
  unfold dropR
  split
  · exact win_filter h _
  · rfl
theorem OkW.not0 (h : OkW W) {i : Int} {t : ByteArray} {zs : List Int} : putOk (fth W.fs 0) i t zs = false := putOk_no fun k => by
  obtain ⟨h0, h1, h2⟩ := (lacksB_iff _ _).1 k.2.2.1
  have := h.len0
  rw [h.have0 i.toNat (by omega)] at h2
  cases h2
theorem okW_take (h : OkW W) {p : PcD} (hp : PieceW W p) : OkW (takeW W p) := by
  have hto := hp.to
  have hfr := hp.fr
  have hw := h.wins p.to.toNat (by omega)
  unfold takeW
  simp only
  split
  · rename_i hc
    split
    · rename_i hk
      have h0 : p.to.toNat ≠ 0 := fun e => by rw [e, h.not0] at hk; cases hk
      have hf := h.feeds p.to.toNat (by omega)
      obtain ⟨_, _, _, _, _, hF⟩ := put_facts h hf hk (by rw [hp.pf, hc.2])
      have h1 := h.put h0 (by omega) hF
      exact h1.win (W := { W with fs := W.fs.set p.to.toNat (putF (fth W.fs p.to.toNat) p.ix.toNat p.tx) }) (by show p.to.toNat < (W.fs.set _ _).length; rw [List.length_set]; omega) (got_win hw _)
    · exact h.win (by omega) (drop_win hw _)
  · exact h
theorem okW_net (h : OkW W) (lose : Bool) (k : Int) : OkW (netW W lose k) := by
  unfold netW
  split
  · rename_i hc
    split
    · exact okW_lose h _
    · exact okW_take (okW_lose h _) (by
        have hE : Ext W (loseW W k.toNat) := Ext.same rfl rfl rfl
        exact hE.piece h (h.pieces _ (pcth_mem _ _ (by omega))))
  · exact h
theorem okW_step (h : OkW W) (e : EvD) : OkW (stepW W e) := by
  unfold stepW
  split
  · exact okW_grow h _
  split
  · exact okW_turn h _ _ _
  split
  · exact okW_turn h _ _ _
  split
  · exact okW_head h _ _
  split
  · exact okW_ask h _ _ _
  split
  · exact okW_answer h _ _ _ _
  split
  · exact okW_net h _ _
  split
  · exact okW_net h _ _
  · exact h
end
theorem okW_steps (es : List EvD) : ∀ {W : WD}, OkW W → OkW (stepsW W es) := by
  induction es with
  | nil => intro W h; exact h
  | cons e es ih => intro W h; exact ih (okW_step h e)
end Go.Proofs.YtkmebilhbjcfpaaGreat
