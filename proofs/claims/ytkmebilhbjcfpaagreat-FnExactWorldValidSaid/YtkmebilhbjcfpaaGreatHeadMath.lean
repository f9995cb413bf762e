/- The plain mathematics of FeedHead: the code that answers a head, the feed that comes of it, and what both say. Conditions: as each statement says. -/
import Derived.Test.YtkmebilhbjcfpaaGreatBaseH
import Derived.Test.YtkmebilhbjcfpaaGreatBaseG
import Derived.Test.YtkmebilhbjcfpaaGreatBaseL
import Derived.Test.YtkmebilhbjcfpaaGreatBaseD
namespace Go.Proofs.YtkmebilhbjcfpaaGreat
open Go.RowKit
set_option linter.unusedVariables false

/-- A feed's rows, lengthened. -/
def longS (bs : List ByteArray) (n : Nat) : List ByteArray := bs ++ noS (n - bs.length)
def longB (hs : List Bool) (n : Nat) : List Bool := hs ++ noB (n - hs.length)
theorem longS_length {bs : List ByteArray} {n : Nat} (h : bs.length ≤ n) : (longS bs n).length = n := by unfold longS; rw [List.length_append, noS_length]; omega
theorem longB_length {hs : List Bool} {n : Nat} (h : hs.length ≤ n) : (longB hs n).length = n := by unfold longB; rw [List.length_append, noB_length]; omega
theorem longS_same {bs : List ByteArray} {n : Nat} (h : n ≤ bs.length) : longS bs n = bs := by unfold longS; rw [show n - bs.length = 0 by omega]; exact List.append_nil _
theorem longB_same {hs : List Bool} {n : Nat} (h : n ≤ hs.length) : longB hs n = hs := by unfold longB; rw [show n - hs.length = 0 by omega]; exact List.append_nil _
theorem longS_take (bs : List ByteArray) (n : Nat) : (longS bs n).take bs.length = bs := by unfold longS; rw [List.take_append_of_le_length (Nat.le_refl _), List.take_of_length_le (Nat.le_refl _)]
theorem sth_longS (bs : List ByteArray) (n k : Nat) : sth (longS bs n) k = sth bs k := by
  unfold sth longS
  rw [List.getD_eq_getElem?_getD, List.getD_eq_getElem?_getD]
  by_cases h : k < bs.length
  · rw [List.getElem?_append_left h]
  · rw [List.getElem?_append_right (by omega), List.getElem?_eq_none (l := bs) (by omega)]
    unfold noS
    rw [List.getElem?_replicate]
    by_cases h2 : k - bs.length < n - bs.length
    · rw [if_pos h2]; rfl
    · rw [if_neg h2]
theorem bth_longB (hs : List Bool) (n k : Nat) : bth (longB hs n) k = bth hs k := by
  unfold bth longB
  rw [List.getD_eq_getElem?_getD, List.getD_eq_getElem?_getD]
  by_cases h : k < hs.length
  · rw [List.getElem?_append_left h]
  · rw [List.getElem?_append_right (by omega), List.getElem?_eq_none (l := hs) (by omega)]
    unfold noB
    rw [List.getElem?_replicate]
    by_cases h2 : k - hs.length < n - hs.length
    · rw [if_pos h2]; rfl
    · rw [if_neg h2]
theorem cntB_noB : ∀ (k : Nat) (hs : List Bool), cntB (hs ++ noB k) = cntB hs := by
  intro k
  induction k with
  | zero => intro hs; rw [show noB 0 = [] from rfl, List.append_nil]
  | succ k ih =>
    intro hs
    rw [show noB (k + 1) = noB k ++ [false] from by unfold noB; exact List.replicate_succ', ← List.append_assoc, cntB_snoc, ih]
    rfl
theorem cnt_longB (hs : List Bool) (n : Nat) : cntB (longB hs n) = cntB hs := cntB_noB _ _

/-- The code that answers a head with a proof of growth. -/
def codeZ (f : FD) (l d s : Int) (zs : List Int) : Int :=
  if okB f = false then 5
  else if signedB f.p l d s = false ∨ l = 0 then 4
  else if l = f.l ∧ d = f.d ∧ s = f.s then 1
  else if l < f.l then 2
  else if l = f.l then 3
  else if 0 < f.l ∧ growOkB f.l f.d l d zs = false then 4
  else 0
/-- The feed that comes of it. -/
def nextF (f : FD) (l d s : Int) : FD := ⟨f.p, l, d, s, longS f.bs l.toNat, longB f.hs l.toNat⟩
def headF (f : FD) (l d s : Int) (zs : List Int) : FD :=
  if codeZ f l d s zs = 5 then zeroF else if codeZ f l d s zs = 0 then nextF f l d s else f

section
variable {f : FD} {l d s : Int} {zs : List Int}
theorem code5 (h : okB f = false) : codeZ f l d s zs = 5 := by unfold codeZ; rw [if_pos h]
theorem code4u (h : okB f = true) (hu : signedB f.p l d s = false) : codeZ f l d s zs = 4 := by
  unfold codeZ; rw [if_neg (by rw [h]; decide), if_pos (.inl hu)]
theorem code4z (h : okB f = true) (hu : l = 0) : codeZ f l d s zs = 4 := by
  unfold codeZ; rw [if_neg (by rw [h]; decide), if_pos (.inr hu)]
theorem not_or_signed (hu : signedB f.p l d s = true) (hl : l ≠ 0) : ¬ (signedB f.p l d s = false ∨ l = 0) := by
  rintro (k | k)
  · rw [hu] at k; cases k
  · exact hl k
theorem code1 (h : okB f = true) (hu : signedB f.p l d s = true) (hl : l ≠ 0) (he : l = f.l ∧ d = f.d ∧ s = f.s) : codeZ f l d s zs = 1 := by
  unfold codeZ; rw [if_neg (by rw [h]; decide), if_neg (not_or_signed hu hl), if_pos he]
theorem code2 (h : okB f = true) (hu : signedB f.p l d s = true) (hl : l ≠ 0) (hlt : l < f.l) : codeZ f l d s zs = 2 := by
  unfold codeZ; rw [if_neg (by rw [h]; decide), if_neg (not_or_signed hu hl), if_neg (by omega), if_pos hlt]
theorem code3 (h : okB f = true) (hu : signedB f.p l d s = true) (hl : l ≠ 0) (he : l = f.l) (hne : ¬ (d = f.d ∧ s = f.s)) : codeZ f l d s zs = 3 := by
  unfold codeZ; rw [if_neg (by rw [h]; decide), if_neg (not_or_signed hu hl), if_neg (fun k => hne k.2), if_neg (by omega), if_pos he]
theorem code4g (h : okB f = true) (hu : signedB f.p l d s = true) (hl : l ≠ 0) (hlt : f.l < l) (h0 : 0 < f.l) (hg : growOkB f.l f.d l d zs = false) : codeZ f l d s zs = 4 := by
  unfold codeZ; rw [if_neg (by rw [h]; decide), if_neg (not_or_signed hu hl), if_neg (by omega), if_neg (by omega), if_neg (by omega), if_pos ⟨h0, hg⟩]
theorem code0 (h : okB f = true) (hu : signedB f.p l d s = true) (hl : l ≠ 0) (hlt : f.l < l) (hg : f.l ≤ 0 ∨ growOkB f.l f.d l d zs = true) : codeZ f l d s zs = 0 := by
  unfold codeZ; rw [if_neg (by rw [h]; decide), if_neg (not_or_signed hu hl), if_neg (by omega), if_neg (by omega), if_neg (by omega), if_neg (by
    rintro ⟨k1, k2⟩
    rcases hg with k | k
    · omega
    · rw [k] at k2; cases k2)]
theorem headF_5 (h : codeZ f l d s zs = 5) : headF f l d s zs = zeroF := by unfold headF; rw [if_pos h]
theorem headF_0 (h : codeZ f l d s zs = 0) : headF f l d s zs = nextF f l d s := by unfold headF; rw [if_neg (by rw [h]; decide), if_pos h]
theorem headF_same (h : codeZ f l d s zs ≠ 5) (h0 : codeZ f l d s zs ≠ 0) : headF f l d s zs = f := by unfold headF; rw [if_neg h, if_neg h0]
/-- What a code says. -/
theorem code_cases (f : FD) (l d s : Int) (zs : List Int) :
    (okB f = false ∧ codeZ f l d s zs = 5) ∨
    (okB f = true ∧ (signedB f.p l d s = false ∨ l = 0) ∧ codeZ f l d s zs = 4) ∨
    (okB f = true ∧ signedB f.p l d s = true ∧ l ≠ 0 ∧ l = f.l ∧ d = f.d ∧ s = f.s ∧ codeZ f l d s zs = 1) ∨
    (okB f = true ∧ signedB f.p l d s = true ∧ l ≠ 0 ∧ l < f.l ∧ codeZ f l d s zs = 2) ∨
    (okB f = true ∧ signedB f.p l d s = true ∧ l ≠ 0 ∧ l = f.l ∧ ¬ (d = f.d ∧ s = f.s) ∧ codeZ f l d s zs = 3) ∨
    (okB f = true ∧ signedB f.p l d s = true ∧ l ≠ 0 ∧ f.l < l ∧ 0 < f.l ∧ growOkB f.l f.d l d zs = false ∧ codeZ f l d s zs = 4) ∨
    (okB f = true ∧ signedB f.p l d s = true ∧ l ≠ 0 ∧ f.l < l ∧ (f.l ≤ 0 ∨ growOkB f.l f.d l d zs = true) ∧ codeZ f l d s zs = 0) := by
  cases h : okB f with
  | false => exact .inl ⟨rfl, code5 h⟩
  | true =>
    refine .inr ?_
    cases hu : signedB f.p l d s with
    | false => exact .inl ⟨rfl, .inl rfl, code4u h hu⟩
    | true =>
      by_cases hl : l = 0
      · exact .inl ⟨rfl, .inr hl, code4z h hl⟩
      · refine .inr ?_
        by_cases h1 : l < f.l
        · exact .inr (.inl ⟨rfl, rfl, hl, h1, code2 h hu hl h1⟩)
        · by_cases h2 : l = f.l
          · by_cases h3 : d = f.d ∧ s = f.s
            · exact .inl ⟨rfl, rfl, hl, h2, h3.1, h3.2, code1 h hu hl ⟨h2, h3.1, h3.2⟩⟩
            · exact .inr (.inr (.inl ⟨rfl, rfl, hl, h2, h3, code3 h hu hl h2 h3⟩))
          · refine .inr (.inr (.inr ?_))
            by_cases h4 : f.l ≤ 0
            · exact .inr ⟨rfl, rfl, hl, by omega, .inl h4, code0 h hu hl (by omega) (.inl h4)⟩
            · cases hg : growOkB f.l f.d l d zs with
              | false => exact .inl ⟨rfl, rfl, hl, by omega, by omega, rfl, code4g h hu hl (by omega) (by omega) hg⟩
              | true => exact .inr ⟨rfl, rfl, hl, by omega, .inr rfl, code0 h hu hl (by omega) (.inr hg)⟩
theorem code0_facts (h : codeZ f l d s zs = 0) : okB f = true ∧ signedB f.p l d s = true ∧ f.l < l ∧ (f.l ≤ 0 ∨ growOkB f.l f.d l d zs = true) := by
  rcases code_cases f l d s zs with k | k | k | k | k | k | k
  · omega
  · have := k.2.2; omega
  · have := k.2.2.2.2.2.2; omega
  · have := k.2.2.2.2; omega
  · have := k.2.2.2.2.2; omega
  · have := k.2.2.2.2.2.2; omega
  · exact ⟨k.1, k.2.1, k.2.2.2.1, k.2.2.2.2.1⟩
/-- The lengthened feed is valid. -/
theorem next_ok (h : okB f = true) (hu : signedB f.p l d s = true) (hlt : f.l < l) : okB (nextF f l d s) = true := by
  have hf := (okB_iff f).1 h
  have hl := ((signedB_iff _ _ _ _).1 hu).2.1
  have hb : f.bs.length ≤ l.toNat := by have := hf.2.2.1.1; omega
  have hh : f.hs.length < l.toNat := by have := hf.2.2.1.2; omega
  refine okB_yes ⟨hf.1, .inr hu, ⟨?_, ?_⟩, ?_, ?_⟩
  · show ((longS f.bs l.toNat).length : Int) = l; rw [longS_length hb]; omega
  · show ((longB f.hs l.toNat).length : Int) = l; rw [longB_length (by omega)]; omega
  · intro k hk
    show (sth (longS f.bs l.toNat) k).size ≤ 8 ∧ (sth (longS f.bs l.toNat) k = ByteArray.empty ∨ bth (longB f.hs l.toNat) k = true)
    rw [sth_longS, bth_longB]
    by_cases hk2 : k < f.bs.length
    · exact hf.2.2.2.1 k hk2
    · have e : sth f.bs k = ByteArray.empty := by unfold sth; rw [List.getD_eq_getElem?_getD, List.getElem?_eq_none (by omega)]; rfl
      rw [e]; exact ⟨Nat.zero_le _, .inl rfl⟩
  · intro e
    have e' : wholeB (longB f.hs l.toNat) = true := e
    rw [wholeB_no (k := f.hs.length) (by rw [longB_length (by omega)]; exact hh) (by
      rw [bth_longB]; unfold bth; rw [List.getD_eq_getElem?_getD, List.getElem?_eq_none (Nat.le_refl _)]; rfl)] at e'
    cases e'
/-- A valid feed with a head that is longer than 0 has a signed head. -/
theorem ok_signed (h : okB f = true) (hl : f.l ≠ 0) : signedB f.p f.l f.d f.s = true := by
  rcases ((okB_iff f).1 h).2.1 with k | k
  · exact absurd k.1 hl
  · exact k
/-- The answers after a head was accepted. -/
theorem code_twice (h : codeZ f l d s zs = 0) (ys : List Int) : codeZ (nextF f l d s) l d s ys = 1 := by
  obtain ⟨h1, h2, h3, _⟩ := code0_facts h
  have h4 := ((okB_iff f).1 h1).2.1.len
  exact code1 (f := nextF f l d s) (next_ok h1 h2 h3) h2 (by omega) ⟨rfl, rfl, rfl⟩
theorem code_older (h : codeZ f l d s zs = 0) (hl : f.l ≠ 0) (ys : List Int) : codeZ (nextF f l d s) f.l f.d f.s ys = 2 := by
  obtain ⟨h1, h2, h3, _⟩ := code0_facts h
  exact code2 (f := nextF f l d s) (next_ok h1 h2 h3) (ok_signed h1 hl) hl h3
theorem headF_1 (h : codeZ f l d s zs = 1) : headF f l d s zs = f := headF_same (by omega) (by omega)
theorem headF_2 (h : codeZ f l d s zs = 2) : headF f l d s zs = f := headF_same (by omega) (by omega)
theorem headF_3 (h : codeZ f l d s zs = 3) : headF f l d s zs = f := headF_same (by omega) (by omega)
theorem headF_4 (h : codeZ f l d s zs = 4) : headF f l d s zs = f := headF_same (by omega) (by omega)
/-- The first head of a new feed. -/
theorem new_ok {p : Int} (h : 1 ≤ p ∧ p < 997) : okB (newF p) = true :=
  okB_yes ⟨h, .inl ⟨rfl, rfl, rfl⟩, ⟨rfl, rfl⟩, fun k hk => absurd hk (Nat.not_lt_zero _), fun e => by cases e⟩
theorem code_first {p : Int} (hu : signedB p l d s = true) (hl : l ≠ 0) (ys : List Int) : codeZ (newF p) l d s ys = 0 := by
  obtain ⟨hp, h1, _⟩ := (signedB_iff _ _ _ _).1 hu
  exact code0 (f := newF p) (new_ok hp) hu hl (by show (0 : Int) < l; omega) (.inl (Int.le_refl 0))
theorem signed_zero (p l d : Int) : signedB p l d 0 = false := signedB_no fun k => by have := k.2.2.2.1; omega
end

end Go.Proofs.YtkmebilhbjcfpaaGreat
