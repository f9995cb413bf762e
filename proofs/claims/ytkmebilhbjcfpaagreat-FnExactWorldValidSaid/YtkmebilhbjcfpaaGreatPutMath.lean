/- The plain mathematics of FeedPut: when a block is stored, and the feed that comes of it. Conditions: as each statement says. -/
import Derived.Test.YtkmebilhbjcfpaaGreatHeadMath
import Derived.Test.YtkmebilhbjcfpaaGreatProofLaws
import Derived.Test.YtkmebilhbjcfpaaGreatFeedProve
namespace Go.Proofs.YtkmebilhbjcfpaaGreat
open Go.RowKit
set_option linter.unusedVariables false

/-- A feed in which a block is there. -/
def putF (f : FD) (i : Nat) (t : ByteArray) : FD := ⟨f.p, f.l, f.d, f.s, f.bs.set i t, f.hs.set i true⟩
/-- Is there a block with this index, which is not there? -/
def lacksB (f : FD) (i : Int) : Bool := decide (0 ≤ i ∧ i < f.hs.length ∧ bth f.hs i.toNat = false)
theorem lacksB_iff (f : FD) (i : Int) : lacksB f i = true ↔ 0 ≤ i ∧ i < f.hs.length ∧ bth f.hs i.toNat = false := by simp only [lacksB, decide_eq_true_eq]
def putOk (f : FD) (i : Int) (t : ByteArray) (zs : List Int) : Bool :=
  okB f && (decide (t.size ≤ 8) && (lacksB f i && (treeOkB f.d f.l i (textOr t) zs && okB (putF f i.toNat t))))
theorem putOk_iff (f : FD) (i : Int) (t : ByteArray) (zs : List Int) : putOk f i t zs = true ↔ okB f = true ∧ t.size ≤ 8 ∧ lacksB f i = true ∧ treeOkB f.d f.l i (textOr t) zs = true ∧ okB (putF f i.toNat t) = true := by
  unfold putOk; simp only [Bool.and_eq_true, decide_eq_true_eq]
theorem putOk_no {f : FD} {i : Int} {t : ByteArray} {zs : List Int} (h : ¬ (okB f = true ∧ t.size ≤ 8 ∧ lacksB f i = true ∧ treeOkB f.d f.l i (textOr t) zs = true ∧ okB (putF f i.toNat t) = true)) : putOk f i t zs = false := by
  rw [Bool.eq_false_iff]; exact fun e => h ((putOk_iff f i t zs).1 e)
/-- The feed that FeedPut hands back. -/
def putR (f : FD) (i : Int) (t : ByteArray) (zs : List Int) : FD :=
  if okB f = true ∧ t.size ≤ 8 then (if putOk f i t zs = true then putF f i.toNat t else f) else zeroF
section
variable {f : FD} {i : Int} {t : ByteArray} {zs : List Int}
theorem putR_inv (h : ¬ (okB f = true ∧ t.size ≤ 8)) : putR f i t zs = zeroF := by unfold putR; rw [if_neg h]
theorem putR_no (h : okB f = true) (ht : t.size ≤ 8) (hk : putOk f i t zs = false) : putR f i t zs = f := by
  unfold putR; rw [if_pos ⟨h, ht⟩, if_neg (by rw [hk]; decide)]
theorem putR_yes (hk : putOk f i t zs = true) : putR f i t zs = putF f i.toNat t := by
  obtain ⟨h, ht, _⟩ := (putOk_iff _ _ _ _).1 hk
  unfold putR; rw [if_pos ⟨h, ht⟩, if_pos hk]
end
theorem bth_set' (hs : List Bool) (k j : Nat) (x : Bool) (hk : k < hs.length) : bth (hs.set k x) j = if j = k then x else bth hs j := by
  unfold bth
  rw [List.getD_eq_getElem?_getD, List.getElem?_set, List.getD_eq_getElem?_getD]
  by_cases h : k = j
  · subst h; simp [hk]
  · simp [h, Ne.symm h]
theorem sth_set' (bs : List ByteArray) (k j : Nat) (x : ByteArray) (hk : k < bs.length) : sth (bs.set k x) j = if j = k then x else sth bs j := by
  unfold sth
  rw [List.getD_eq_getElem?_getD, List.getElem?_set, List.getD_eq_getElem?_getD]
  by_cases h : k = j
  · subst h; simp [hk]
  · simp [h, Ne.symm h]
/-- A block that was stored is there: it isn't stored again. -/
theorem put_twice {f : FD} {i : Int} {t : ByteArray} {zs : List Int} (h : putOk f i t zs = true) (u : ByteArray) (ys : List Int) : putOk (putF f i.toNat t) i u ys = false := by
  obtain ⟨_, _, hl, _, _⟩ := (putOk_iff _ _ _ _).1 h
  obtain ⟨h0, h1, _⟩ := (lacksB_iff _ _).1 hl
  refine putOk_no fun k => ?_
  obtain ⟨_, _, k3⟩ := (lacksB_iff _ _).1 k.2.2.1
  have e : bth (f.hs.set i.toNat true) i.toNat = false := k3
  rw [bth_set' _ _ _ _ (by omega), if_pos rfl] at e
  cases e
/-- What is proved of a block of a whole feed is accepted. -/
theorem prove_ok {f : FD} {k : Nat} (h : proveOk f (k : Int) = true) : treeOkB f.d f.l (k : Int) (textOr (sth f.bs k)) (proveL f (k : Int)) = true ∧ (proveL f (k : Int)).length ≤ 6 := by
  obtain ⟨hf, hw, h0, h1⟩ := (proveOk_iff _ _).1 h
  have hk : k < f.bs.length := by omega
  have hlv := hf.leaves
  obtain ⟨h16, hd⟩ := leavesB_yes hlv
  have hk' : k < (leafL f.bs).length := by rw [leafL_length]; exact hk
  have e1 : digestZ (leafL f.bs) = f.d := by
    have := hf.2.2.2.2 hw
    unfold digestOr at this
    rwa [if_pos hlv] at this
  have e2 : ((leafL f.bs).length : Int) = f.l := by rw [leafL_length]; exact hf.2.2.1.1
  rw [proveL_yes h]
  refine ⟨?_, proofOr_short _ _⟩
  rw [proofOr_yes hlv hk']
  have := proof_ok (leafL f.bs) k h16 hk' hd
  rw [e1, e2, nth_leafL f.bs k hk] at this
  exact this

end Go.Proofs.YtkmebilhbjcfpaaGreat
