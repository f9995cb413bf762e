/- Runs of a swarm as data: what a run is, when it is valid, and what the events, the quiet period and the reach make of it. No conditions. -/
import Derived.Test.YtkmebilhbjcfpaaPutMath
import Derived.Test.YtkmebilhbjcfpaaBaseG
import Derived.Test.YtkmebilhbjcfpaaBaseE
import Derived.Test.YtkmebilhbjcfpaaAsks
namespace Go.Proofs.Ytkmebilhbjcfpaa
set_option linter.unusedVariables false

/-- A connection. -/
structure LinkD where
  a : Int
  b : Int
theorem LinkD.same {x y : LinkD} (h : x.a = y.a) (k : x.b = y.b) : x = y := by
  cases x; cases y; simp only at h k; rw [h, k]
def eqK (x y : LinkD) : Bool := x.a == y.a && x.b == y.b
theorem eqK_iff (x y : LinkD) : eqK x y = true ↔ x = y := by
  unfold eqK
  rw [Bool.and_eq_true, beq_iff_eq, beq_iff_eq]
  exact ⟨fun h => LinkD.same h.1 h.2, fun h => by rw [h]; exact ⟨rfl, rfl⟩⟩
/-- A block in transit. -/
structure PcD where
  fr : Int
  to : Int
  ln : Int
  ix : Int
  tx : ByteArray
  pf : List Int
/-- A run. -/
structure WD where
  sec : Int
  bad : Int
  fs : List FD
  ls : List LinkD
  aq : List (List AD)
  net : List PcD
def zeroP : PcD := ⟨0, 0, 0, 0, ByteArray.empty, []⟩
def zeroW : WD := ⟨0, 0, [], [], [], []⟩
def fth (fs : List FD) (k : Nat) : FD := fs.getD k zeroF
def kth2 (ls : List LinkD) (k : Nat) : LinkD := ls.getD k ⟨0, 0⟩
def wth (aq : List (List AD)) (k : Nat) : List AD := aq.getD k []
def pcth (ps : List PcD) (k : Nat) : PcD := ps.getD k zeroP

/-! ### when a run is valid -/
def newOk (sec n bad : Int) : Bool := keyB sec && decide ((1 ≤ n ∧ n ≤ 6) ∧ (bad = -1 ∨ (1 ≤ bad ∧ bad ≤ n - 1)))
theorem newOk_iff (sec n bad : Int) : newOk sec n bad = true ↔ (1 ≤ sec ∧ sec < 997) ∧ (1 ≤ n ∧ n ≤ 6) ∧ (bad = -1 ∨ (1 ≤ bad ∧ bad ≤ n - 1)) := by
  unfold newOk; rw [Bool.and_eq_true, keyB_iff, decide_eq_true_eq]
def newW (sec n bad : Int) : WD := ⟨sec, bad, List.replicate n.toNat (newF (publicOr sec)), [], List.replicate n.toNat [], []⟩
/-- The digests of so many first blocks of the writer. -/
def leavesW (W : WD) (n : Nat) : List Int := leafL ((fth W.fs 0).bs.take n)
/-- What a feed of a peer has to be. -/
structure FeedW (W : WD) (f : FD) : Prop where
  ok : okB f = true
  key : f.p = publicOr W.sec
  le : f.l ≤ (fth W.fs 0).l
  same : ∀ i, i < f.bs.length → bth f.hs i = true → textOr (sth f.bs i) = textOr (sth (fth W.fs 0).bs i)
  head : f.l = 0 ∨ (f.l = madeL W.sec (leavesW W f.l.toNat) ∧ f.d = madeD W.sec (leavesW W f.l.toNat) ∧ f.s = madeS W.sec (leavesW W f.l.toNat))
structure PieceW (W : WD) (p : PcD) : Prop where
  fr : 0 ≤ p.fr ∧ p.fr < W.fs.length
  to : 0 ≤ p.to ∧ p.to < W.fs.length
  ln : 1 ≤ p.ln ∧ p.ln ≤ (fth W.fs 0).l
  ix : 0 ≤ p.ix ∧ p.ix < p.ln
  tx : p.tx.size ≤ 8
  pf : p.pf = proofOr (leavesW W p.ln.toNat) p.ix
def ltK (x y : LinkD) : Prop := x.a < y.a ∨ (x.a = y.a ∧ x.b < y.b)
instance (x y : LinkD) : Decidable (ltK x y) := by unfold ltK; infer_instance
structure LinksW (n : Nat) (ls : List LinkD) : Prop where
  ok : ∀ l ∈ ls, 0 ≤ l.a ∧ l.a < l.b ∧ l.b < n
  asc : ls.Pairwise ltK
structure OkW (W : WD) : Prop where
  new : newOk W.sec W.fs.length W.bad = true
  ok0 : okB (fth W.fs 0) = true
  whole : noneF (fth W.fs 0).hs = true
  links : LinksW W.fs.length W.ls
  aslen : W.aq.length = W.fs.length
  netlen : W.net.length ≤ 12
  feeds : ∀ k, k < W.fs.length → FeedW W (fth W.fs k)
  wins : ∀ k, k < W.fs.length → winB (wth W.aq k) = true
  pieces : ∀ p ∈ W.net, PieceW W p

/-! ### the events -/
def growF (W : WD) (t : ByteArray) : FD :=
  let f := fth W.fs 0
  let zs := leafL (f.bs ++ [t])
  ⟨f.p, madeL W.sec zs, madeD W.sec zs, madeS W.sec zs, f.bs ++ [t], f.hs ++ [true]⟩
def growW (W : WD) (t : ByteArray) : WD :=
  if t.size ≤ 8 ∧ (fth W.fs 0).bs.length < 16 then { W with fs := W.fs.set 0 (growF W t) } else W
def linkedB (W : WD) (a b : Int) : Bool := W.ls.any (fun l => l.a == min a b && l.b == max a b)
def befK (x y : LinkD) : Bool := decide (ltK y x)
def insK (ls : List LinkD) (x : LinkD) : List LinkD := ls.takeWhile (befK x) ++ x :: ls.dropWhile (befK x)
def delK (ls : List LinkD) (x : LinkD) : List LinkD := ls.filter (fun l => !eqK l x)
def turnOk (W : WD) (a b : Int) (up : Bool) : Bool := decide (a ≠ b ∧ (0 ≤ min a b ∧ max a b < W.fs.length)) && (linkedB W a b != up)
def turnW (W : WD) (a b : Int) (up : Bool) : WD :=
  if turnOk W a b up = true then { W with ls := if up = true then insK W.ls ⟨min a b, max a b⟩ else delK W.ls ⟨min a b, max a b⟩ } else W
def headW (W : WD) (a b : Int) : WD :=
  let fa := fth W.fs a.toNat
  let fb := fth W.fs b.toNat
  let zs := growthOr (leavesW W fa.l.toNat) fb.l
  if linkedB W a b = true ∧ fb.l < fa.l ∧ codeZ fb fa.l fa.d fa.s zs = 0 then { W with fs := W.fs.set b.toNat (nextF fb fa.l fa.d fa.s) } else W
def hasF (f : FD) (i : Int) : Bool := decide (0 ≤ i ∧ i < f.hs.length) && bth f.hs i.toNat
def endB (f : FD) : Bool := decide ((f.hs.length : Int) - cntB f.hs ≤ 2)
def hasA (xs : List AD) (a : AD) : Bool := xs.any (isA a)
def askW (W : WD) (a b c : Int) : WD :=
  let fa := fth W.fs a.toNat
  let fb := fth W.fs b.toNat
  if linkedB W a b = true ∧ fa.l = fb.l ∧ hasF fb c = true ∧ bth fa.hs c.toNat = false ∧ askO (wth W.aq a.toNat) ⟨b, c⟩ (endB fa) = true then
    { W with aq := W.aq.set a.toNat (askR (wth W.aq a.toNat) ⟨b, c⟩ (endB fa)) } else W
def sentT (W : WD) (b c : Int) (t : ByteArray) : ByteArray := if b = W.bad then t else sth (fth W.fs b.toNat).bs c.toNat
def sentP (W : WD) (a b c : Int) (t : ByteArray) : PcD := ⟨b, a, (fth W.fs b.toNat).l, c, sentT W b c t, proofOr (leavesW W (fth W.fs b.toNat).l.toNat) c⟩
def answerW (W : WD) (a b c : Int) (t : ByteArray) : WD :=
  if linkedB W a b = true ∧ hasA (wth W.aq a.toNat) ⟨b, c⟩ = true ∧ hasF (fth W.fs b.toNat) c = true ∧ W.net.length < 12 ∧ (sentT W b c t).size ≤ 8 then
    { W with net := W.net ++ [sentP W a b c t] } else W
def loseW (W : WD) (k : Nat) : WD := { W with net := W.net.eraseIdx k }
/-- A block in transit arrives; W is the run in which it is no longer in transit. -/
def takeW (W : WD) (p : PcD) : WD :=
  let f := fth W.fs p.to.toNat
  let xs := wth W.aq p.to.toNat
  if hasA xs ⟨p.fr, p.ix⟩ = true ∧ f.l = p.ln then
    (if putOk f p.ix p.tx p.pf = true then { W with fs := W.fs.set p.to.toNat (putF f p.ix.toNat p.tx), aq := W.aq.set p.to.toNat (gotR xs ⟨p.fr, p.ix⟩) }
     else { W with aq := W.aq.set p.to.toNat (dropR xs p.fr) })
  else W
def netW (W : WD) (lose : Bool) (k : Int) : WD :=
  if 0 ≤ k ∧ k < W.net.length then (if lose = true then loseW W k.toNat else takeW (loseW W k.toNat) (pcth W.net k.toNat)) else W
/-- An event. -/
structure EvD where
  k : Int
  a : Int
  b : Int
  c : Int
  t : ByteArray
def stepW (W : WD) (e : EvD) : WD :=
  if e.k = 1 then growW W e.t
  else if e.k = 2 then turnW W e.a e.b true
  else if e.k = 3 then turnW W e.a e.b false
  else if e.k = 4 then headW W e.a e.b
  else if e.k = 5 then askW W e.a e.b e.c
  else if e.k = 6 then answerW W e.a e.b e.c e.t
  else if e.k = 7 then netW W false e.a
  else if e.k = 8 then netW W true e.a
  else W
def stepsW (W : WD) (es : List EvD) : WD := es.foldl stepW W

/-! ### the quiet period -/
/-- One block is given. -/
def giveB (W : WD) (a b : Int) (i : Nat) : WD :=
  let fa := fth W.fs a.toNat
  let fb := fth W.fs b.toNat
  if fb.l = fa.l ∧ bth fa.hs i = true ∧ bth fb.hs i = false then
    { W with fs := W.fs.set b.toNat (putR fb i (sth fa.bs i) (proofOr (leavesW W fa.l.toNat) i)) } else W
def giveN (W : WD) (a b : Int) (n : Nat) : WD := (List.range n).foldl (fun V i => giveB V a b i) W
def giveW (W : WD) (a b : Int) : WD :=
  if a = W.bad then W else giveN (headW W a b) a b (fth W.fs a.toNat).l.toNat
def quietW (W : WD) : WD := { W with net := [], aq := List.replicate W.aq.length [] }
def giveL (W : WD) (l : LinkD) : WD := giveW (giveW W l.a l.b) l.b l.a
def roundW (W : WD) (ls : List LinkD) : WD := ls.foldl giveL W
def roundsW (W : WD) (ls : List LinkD) : Nat → WD
  | 0 => W
  | k + 1 => roundW (roundsW W ls k) ls
def calmW (W : WD) : WD := roundsW (quietW W) W.ls W.fs.length

/-! ### the reach -/
def markL (bad : Int) (bs : List Bool) (l : LinkD) : List Bool :=
  let bs1 := if bth bs l.a.toNat = true ∧ l.a ≠ bad then bs.set l.b.toNat true else bs
  if bth bs1 l.b.toNat = true ∧ l.b ≠ bad then bs1.set l.a.toNat true else bs1
def marksL1 (bad : Int) (ls : List LinkD) (bs : List Bool) : List Bool := ls.foldl (markL bad) bs
def marksK (bad : Int) (ls : List LinkD) (bs : List Bool) : Nat → List Bool
  | 0 => bs
  | k + 1 => marksL1 bad ls (marksK bad ls bs k)
def begin0 (n : Nat) : List Bool := (List.replicate n false).set 0 true
def reachB (W : WD) : List Bool := marksK W.bad W.ls (begin0 W.fs.length) W.fs.length
def setsK (bs : List Bool) : Nat → List Int
  | 0 => []
  | k + 1 => setsK bs k ++ (if bth bs k = true then [(k : Int)] else [])
def reachW (W : WD) : List Int := setsK (reachB W) (reachB W).length
end Go.Proofs.Ytkmebilhbjcfpaa
