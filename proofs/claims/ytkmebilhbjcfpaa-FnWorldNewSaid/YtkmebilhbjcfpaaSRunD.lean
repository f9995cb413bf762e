/- Contract of the model's l51Leaves as it is handed on to HeadMake, and what l51Feed answers as data. Conditions: as in l51Leaves. -/
import Derived.Test.YtkmebilhbjcfpaaSRunC
import Derived.Test.YtkmebilhbjcfpaaLeaves2
namespace Go.Proofs.Ytkmebilhbjcfpaa
open Go.RowKit
set_option linter.unusedVariables false




/-- Are the blocks of a feed that are there those of the writer? -/
def sameB (f : FD) (bs0 : List ByteArray) : Bool := (List.range f.bs.length).all (fun i => !bth f.hs i || (textOr (sth f.bs i) == textOr (sth bs0 i)))
/-- Is the head of a feed that of so many first blocks of the writer? -/
def headB (sec : Int) (bs0 : List ByteArray) (f : FD) : Bool :=
  decide (f.l = 0) || (decide (f.l = madeL sec (leafL (bs0.take f.l.toNat))) && (decide (f.d = madeD sec (leafL (bs0.take f.l.toNat))) && decide (f.s = madeS sec (leafL (bs0.take f.l.toNat)))))
/-- Does a feed suit a run whose writer has blocks bs0 and a head of length l0? -/
def feedB (sec l0 : Int) (bs0 : List ByteArray) (f : FD) : Bool := okB f && (decide (f.p = publicOr sec) && (decide (f.l ≤ l0) && (sameB f bs0 && headB sec bs0 f)))
theorem sameB_iff (f : FD) (bs0 : List ByteArray) : sameB f bs0 = true ↔ ∀ i, i < f.bs.length → bth f.hs i = true → textOr (sth f.bs i) = textOr (sth bs0 i) := by
  unfold sameB
  rw [List.all_eq_true]
  constructor
  · intro h i hi hb
    have := h i (List.mem_range.2 hi)
    rw [hb] at this
    simpa using this
  · intro h i hi
    cases hb : bth f.hs i with
    | false => rfl
    | true => simpa using h i (List.mem_range.1 hi) hb
theorem headB_iff (sec : Int) (bs0 : List ByteArray) (f : FD) : headB sec bs0 f = true ↔ (f.l = 0 ∨ (f.l = madeL sec (leafL (bs0.take f.l.toNat)) ∧ f.d = madeD sec (leafL (bs0.take f.l.toNat)) ∧ f.s = madeS sec (leafL (bs0.take f.l.toNat)))) := by
  unfold headB
  simp only [Bool.or_eq_true, Bool.and_eq_true, decide_eq_true_eq]
theorem feedB_iff (W : WD) (f : FD) : feedB W.sec (fth W.fs 0).l (fth W.fs 0).bs f = true ↔ FeedW W f := by
  unfold feedB
  simp only [Bool.and_eq_true, decide_eq_true_eq]
  rw [sameB_iff, headB_iff]
  exact ⟨fun ⟨a, b, c, d, e⟩ => ⟨a, b, c, d, e⟩, fun ⟨a, b, c, d, e⟩ => ⟨a, b, c, d, e⟩⟩
end Go.Proofs.Ytkmebilhbjcfpaa
