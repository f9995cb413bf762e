/- More on the blocks that records tell: what is there stays there. Condition: plain mathematics. -/
import Derived.Test.YtnllejialnkgnaaJBlocks
namespace Go.Proofs.Ytnllejialnkgnaa
set_option linter.unusedVariables false

theorem bth_set (bs : List Bool) (a j : Nat) (h : bth bs j = true ∨ (a = j ∧ j < bs.length)) : bth (bs.set a true) j = true := by
  unfold bth at *
  rw [List.getD_eq_getElem?_getD, List.getElem?_set]
  by_cases e : a = j
  · subst e
    rw [if_pos rfl]
    by_cases hl : a < bs.length
    · rw [if_pos hl]; rfl
    · rcases h with h | h
      · rw [List.getD_eq_getElem?_getD, List.getElem?_eq_none (by omega)] at h; cases h
      · exact absurd h.2 hl
  · rw [if_neg e]
    rcases h with h | h
    · rw [← List.getD_eq_getElem?_getD]; exact h
    · exact absurd h.1 e
theorem foldH_keep (rs : List RD) : ∀ (bs : List Bool) (j : Nat), bth bs j = true → bth (rs.foldl (fun bs r => bs.set r.i.toNat true) bs) j = true := by
  induction rs with
  | nil => intro bs j h; exact h
  | cons r rs ih => intro bs j h; rw [List.foldl_cons]; exact ih _ j (bth_set bs _ j (.inl h))
theorem foldH_mem (rs : List RD) : ∀ (bs : List Bool) (r : RD), r ∈ rs → r.i.toNat < bs.length → bth (rs.foldl (fun bs r => bs.set r.i.toNat true) bs) r.i.toNat = true := by
  induction rs with
  | nil => intro bs r h; cases h
  | cons x rs ih =>
    intro bs r h hl
    rw [List.foldl_cons]
    rcases List.mem_cons.1 h with rfl | h
    · exact foldH_keep rs _ _ (bth_set bs _ _ (.inr ⟨rfl, hl⟩))
    · exact ih _ r h (by rw [List.length_set]; exact hl)
/-- Of what a record tells there is a block. -/
theorem blkH_there (rs : List RD) (n k : Nat) (hk : k < rs.length) (hi : (rth rs k).i.toNat < n) : bth (blkH rs n) (rth rs k).i.toNat = true := by
  unfold blkH
  refine foldH_mem rs _ _ ?_ (by rw [noB_length]; exact hi)
  rw [rth_eq rs k hk]
  exact List.getElem_mem hk
theorem bth_other (bs : List Bool) (a j : Nat) (v : Bool) (h : j ≠ a) : bth (bs.set a v) j = bth bs j := by
  unfold bth
  rw [List.getD_eq_getElem?_getD, List.getD_eq_getElem?_getD, List.getElem?_set_ne (fun e => h e.symm)]
theorem sth_other (bs : List ByteArray) (a j : Nat) (v : ByteArray) (h : j ≠ a) : sth (bs.set a v) j = sth bs j := by
  unfold sth
  rw [List.getD_eq_getElem?_getD, List.getD_eq_getElem?_getD, List.getElem?_set_ne (fun e => h e.symm)]
theorem bth_at (bs : List Bool) (a : Nat) (v : Bool) (h : a < bs.length) : bth (bs.set a v) a = v := by
  unfold bth
  rw [List.getD_eq_getElem?_getD, List.getElem?_set_self h]; rfl
theorem sth_at (bs : List ByteArray) (a : Nat) (v : ByteArray) (h : a < bs.length) : sth (bs.set a v) a = v := by
  unfold sth
  rw [List.getD_eq_getElem?_getD, List.getElem?_set_self h]; rfl
theorem blkA_ok {rs : List RD} {s : Int} (n : Nat) (h : jokB rs s = true) (hn : n ≤ 16) : blkA rs s (n : Int) = blkS rs n ∧ blkB rs s (n : Int) = blkH rs n := by
  have hk : blkOk rs s (n : Int) = true := by unfold blkOk; rw [h, decide_eq_true (by omega)]; rfl
  unfold blkA blkB
  rw [if_pos hk, if_pos hk]
  exact ⟨rfl, rfl⟩
theorem blk_lens (rs : List RD) (s ln : Int) : (blkA rs s ln).length = (blkB rs s ln).length ∧ (blkA rs s ln).length ≤ maxLen := by
  unfold blkA blkB
  by_cases h : blkOk rs s ln = true
  · rw [if_pos h, if_pos h, blkS_length, blkH_length]
    unfold blkOk at h
    rw [Bool.and_eq_true, decide_eq_true_eq] at h
    exact ⟨rfl, by unfold maxLen; omega⟩
  · rw [if_neg h, if_neg h]; exact ⟨rfl, Nat.zero_le _⟩
theorem blk_start (rs : List RD) (n i : Nat) : sth (blkS (rs.take 0) n) i = ByteArray.empty ∧ bth (blkH (rs.take 0) n) i = false := by
  constructor
  · show sth (noS n) i = _
    by_cases h : i < n
    · unfold sth noS; rw [List.getD_eq_getElem?_getD, List.getElem?_replicate, if_pos h]; rfl
    · unfold sth noS; rw [List.getD_eq_getElem?_getD, List.getElem?_replicate, if_neg h]; rfl
  · show bth (noB n) i = _
    by_cases h : i < n
    · unfold bth noB; rw [List.getD_eq_getElem?_getD, List.getElem?_replicate, if_pos h]; rfl
    · unfold bth noB; rw [List.getD_eq_getElem?_getD, List.getElem?_replicate, if_neg h]; rfl
theorem foldS_take (rs : List RD) (k : Nat) : ∀ bs : List ByteArray, (rs.foldl (fun bs r => bs.set r.i.toNat r.t) bs).take k = rs.foldl (fun bs r => bs.set r.i.toNat r.t) (bs.take k) := by
  induction rs with
  | nil => intro bs; rfl
  | cons r rs ih => intro bs; rw [List.foldl_cons, List.foldl_cons, ih, List.take_set]
theorem foldH_take (rs : List RD) (k : Nat) : ∀ bs : List Bool, (rs.foldl (fun bs r => bs.set r.i.toNat true) bs).take k = rs.foldl (fun bs r => bs.set r.i.toNat true) (bs.take k) := by
  induction rs with
  | nil => intro bs; rfl
  | cons r rs ih => intro bs; rw [List.foldl_cons, List.foldl_cons, ih, List.take_set]
theorem blkS_take (rs : List RD) {k n : Nat} (h : k ≤ n) : (blkS rs n).take k = blkS rs k := by
  unfold blkS
  rw [foldS_take]
  congr 1
  unfold noS
  rw [List.take_replicate, Nat.min_eq_left h]
theorem blkH_take (rs : List RD) {k n : Nat} (h : k ≤ n) : (blkH rs n).take k = blkH rs k := by
  unfold blkH
  rw [foldH_take]
  congr 1
  unfold noB
  rw [List.take_replicate, Nat.min_eq_left h]
theorem tmodn (a n : Nat) : ((a : Int)).tmod ((n : Int) + 1) = ((a % (n + 1) : Nat) : Int) := by
  rw [Int.tmod_eq_emod_of_nonneg (by omega)]
  rfl

end Go.Proofs.Ytnllejialnkgnaa
