/- The plain mathematics of a reader that has some blocks of a whole feed: it is valid, a further block with its proof is stored, and with all blocks it is the feed. Conditions: the feed is valid and whole. -/
import Derived.Test.YtnffmmaclmeajaaDoorPutMath
namespace Go.Proofs.YtnffmmaclmeajaaDoor
open Go.RowKit
set_option linter.unusedVariables false

def partS (bs : List ByteArray) (S : Nat → Bool) : List ByteArray := (List.range bs.length).map fun k => if S k = true then sth bs k else ByteArray.empty
def partB (n : Nat) (S : Nat → Bool) : List Bool := (List.range n).map S
def partF (f : FD) (S : Nat → Bool) : FD := ⟨f.p, f.l, f.d, f.s, partS f.bs S, partB f.bs.length S⟩
theorem partS_length (bs : List ByteArray) (S : Nat → Bool) : (partS bs S).length = bs.length := by unfold partS; rw [List.length_map, List.length_range]
theorem partB_length (n : Nat) (S : Nat → Bool) : (partB n S).length = n := by unfold partB; rw [List.length_map, List.length_range]
theorem sth_part (bs : List ByteArray) (S : Nat → Bool) (k : Nat) (h : k < bs.length) : sth (partS bs S) k = if S k = true then sth bs k else ByteArray.empty := by
  rw [sth_get _ k (by rw [partS_length]; exact h)]
  unfold partS
  rw [List.getElem_map, List.getElem_range]
theorem bth_part (n : Nat) (S : Nat → Bool) (k : Nat) (h : k < n) : bth (partB n S) k = S k := by
  rw [bth_get _ k (by rw [partB_length]; exact h)]
  unfold partB
  rw [List.getElem_map, List.getElem_range]
theorem sths_ext {a b : List ByteArray} (hl : a.length = b.length) (h : ∀ k, k < a.length → sth a k = sth b k) : a = b := by
  refine List.ext_getElem hl fun k h1 h2 => ?_
  rw [← sth_get a k h1, ← sth_get b k h2]
  exact h k h1
theorem bths_ext {a b : List Bool} (hl : a.length = b.length) (h : ∀ k, k < a.length → bth a k = bth b k) : a = b := by
  refine List.ext_getElem hl fun k h1 h2 => ?_
  rw [← bth_get a k h1, ← bth_get b k h2]
  exact h k h1
theorem part_none (bs : List ByteArray) : partS bs (fun _ => false) = noS bs.length ∧ partB bs.length (fun _ => false) = noB bs.length := by
  constructor
  · refine sths_ext (by rw [partS_length, noS_length]) fun k hk => ?_
    rw [partS_length] at hk
    rw [sth_part bs _ k hk, sth_get (noS bs.length) k (by rw [noS_length]; exact hk)]
    unfold noS
    rw [List.getElem_replicate]; rfl
  · refine bths_ext (by rw [partB_length, noB_length]) fun k hk => ?_
    rw [partB_length] at hk
    rw [bth_part _ _ k hk, bth_get _ k (by rw [noB_length]; exact hk)]
    unfold noB
    rw [List.getElem_replicate]
section
variable {f : FD} {S : Nat → Bool}
theorem whole_bth (hw : wholeB f.hs = true) (k : Nat) (h : k < f.hs.length) : bth f.hs k = true := ((wholeB_iff _).1 hw).2 k h
theorem part_all (h : FeedOk f) (hw : wholeB f.hs = true) (hS : ∀ k, k < f.bs.length → S k = true) : partF f S = f := by
  have hl := h.len.2
  have e1 : partS f.bs S = f.bs := sths_ext (partS_length _ _) fun k hk => by
    rw [partS_length] at hk
    rw [sth_part _ _ k hk, if_pos (hS k hk)]
  have e2 : partB f.bs.length S = f.hs := bths_ext (by rw [partB_length, hl]) fun k hk => by
    rw [partB_length] at hk
    rw [bth_part _ _ k hk, hS k hk, whole_bth hw k (by omega)]
  unfold partF
  rw [e1, e2]
theorem part_ok (h : FeedOk f) (hw : wholeB f.hs = true) : okB (partF f S) = true := by
  have hl := h.len.2
  refine okB_yes ⟨h.1, h.2.1, ⟨by show ((partS f.bs S).length : Int) = f.l; rw [partS_length]; exact h.2.2.1.1, by show ((partB f.bs.length S).length : Int) = f.l; rw [partB_length]; exact h.2.2.1.1⟩, ?_, ?_⟩
  · intro k hk
    have hk' : k < f.bs.length := by have : k < (partS f.bs S).length := hk; rwa [partS_length] at this
    show (sth (partS f.bs S) k).size ≤ 8 ∧ (sth (partS f.bs S) k = ByteArray.empty ∨ bth (partB f.bs.length S) k = true)
    rw [sth_part _ _ k hk', bth_part _ _ k hk']
    by_cases e : S k = true
    · rw [if_pos e]; exact ⟨(h.2.2.2.1 k hk').1, .inr e⟩
    · rw [if_neg e]; exact ⟨Nat.zero_le _, .inl rfl⟩
  · intro e
    have e' : wholeB (partB f.bs.length S) = true := e
    have hS : ∀ k, k < f.bs.length → S k = true := fun k hk => by
      have := ((wholeB_iff _).1 e').2 k (by rw [partB_length]; exact hk)
      rwa [bth_part _ _ k hk] at this
    have e2 := part_all h hw hS
    rw [e2]
    exact h.2.2.2.2 hw
theorem part_put (j : Nat) (hj : j < f.bs.length) : putF (partF f S) j (sth f.bs j) = partF f (fun k => S k || k == j) := by
  have e1 : (partS f.bs S).set j (sth f.bs j) = partS f.bs (fun k => S k || k == j) := by
    refine sths_ext (by rw [List.length_set, partS_length, partS_length]) fun k hk => ?_
    rw [List.length_set, partS_length] at hk
    rw [sth_set' _ _ _ _ (by rw [partS_length]; exact hj), sth_part _ _ k hk, sth_part _ _ k hk]
    by_cases e : k = j
    · subst e; simp
    · rw [if_neg e]; simp [e]
  have e2 : (partB f.bs.length S).set j true = partB f.bs.length (fun k => S k || k == j) := by
    refine bths_ext (by rw [List.length_set, partB_length, partB_length]) fun k hk => ?_
    rw [List.length_set, partB_length] at hk
    rw [bth_set' _ _ _ _ (by rw [partB_length]; exact hj), bth_part _ _ k hk, bth_part _ _ k hk]
    by_cases e : k = j
    · subst e; simp
    · rw [if_neg e]; simp [e]
  unfold putF partF
  rw [e1, e2]
theorem part_putOk {j : Nat} (h : proveOk f (j : Int) = true) (hS : S j = false) : putOk (partF f S) (j : Int) (sth f.bs j) (proveL f (j : Int)) = true := by
  obtain ⟨hf, hw, h0, h1⟩ := (proveOk_iff _ _).1 h
  have hj : j < f.bs.length := by omega
  refine (putOk_iff _ _ _ _).2 ⟨part_ok hf hw, (hf.2.2.2.1 j hj).1, (lacksB_iff _ _).2 ⟨h0, ?_, ?_⟩, (prove_ok h).1, ?_⟩
  · show (j : Int) < ((partB f.bs.length S).length : Int); rw [partB_length]; exact h1
  · show bth (partB f.bs.length S) (Int.toNat (j : Int)) = false; rw [Int.toNat_natCast, bth_part _ _ j hj]; exact hS
  · rw [Int.toNat_natCast, part_put j hj]; exact part_ok hf hw
end
/-- The places that a reader has who stores k blocks from place i on, around the end. -/
def gone (n i k : Nat) (j : Nat) : Bool := (List.range k).any fun m => (m + i) % n == j
theorem gone_zero (n i : Nat) : gone n i 0 = fun _ => false := rfl
theorem gone_succ (n i k : Nat) : (fun j => gone n i k j || j == (k + i) % n) = gone n i (k + 1) := by
  funext j
  unfold gone
  rw [List.range_succ, List.any_append]
  have e : (j == (k + i) % n) = ((k + i) % n == j) := by
    rw [Bool.eq_iff_iff, beq_iff_eq, beq_iff_eq]; exact eq_comm
  rw [e]; simp
theorem look_gone : ((List.range 17).all fun n => (List.range n).all fun i => (List.range n).all fun j => gone n i n j && !gone n i j ((j + i) % n)) = true := by decide +kernel
theorem gone_at {n i j : Nat} (hn : n ≤ 16) (hi : i < n) (hj : j < n) : gone n i n j = true ∧ gone n i j ((j + i) % n) = false := by
  have h := look_gone
  rw [List.all_eq_true] at h
  have h1 := h n (List.mem_range.2 (by omega))
  rw [List.all_eq_true] at h1
  have h2 := h1 i (List.mem_range.2 hi)
  rw [List.all_eq_true] at h2
  have h3 := h2 j (List.mem_range.2 hj)
  simpa using h3

end Go.Proofs.YtnffmmaclmeajaaDoor
