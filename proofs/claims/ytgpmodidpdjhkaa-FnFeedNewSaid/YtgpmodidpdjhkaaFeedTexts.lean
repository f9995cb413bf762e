/- Contracts of the small functions over texts and bits of a feed: textsValid, slices.Contains, isWhole, textDigests, l11Leaves, leavesOf, l11Whole. Condition: the feed lies in memory. -/
import Derived.Test.YtgpmodidpdjhkaaFeedWords
import Derived.Test.YtgpmodidpdjhkaaBitsCount
namespace Go.Proofs.Ytgpmodidpdjhkaa
open Go.RowKit
set_option linter.unusedVariables false

/-- The first n texts may stand where they stand. -/
def TextsTo (bs : List ByteArray) (hs : List Bool) (n : Nat) : Prop := ∀ k, k < n → (sth bs k).size ≤ 8 ∧ (sth bs k = ByteArray.empty ∨ bth hs k = true)
theorem TextsTo.zero (bs : List ByteArray) (hs : List Bool) : TextsTo bs hs 0 := fun k hk => absurd hk (Nat.not_lt_zero _)
theorem TextsTo.next {bs : List ByteArray} {hs : List Bool} {n : Nat} (h : TextsTo bs hs n) (h8 : (sth bs n).size ≤ 8) (he : sth bs n = ByteArray.empty ∨ bth hs n = true) : TextsTo bs hs (n + 1) := fun k hk => by
  by_cases e : k = n
  · subst e; exact ⟨h8, he⟩
  · exact h k (by omega)
theorem textsOk_no {bs : List ByteArray} {hs : List Bool} {k : Nat} (hk : k < bs.length) (h : ¬ ((sth bs k).size ≤ 8 ∧ (sth bs k = ByteArray.empty ∨ bth hs k = true))) : decide (TextsOk bs hs) = false := by
  rw [decide_eq_false_iff_not]; exact fun e => h (e k hk)
theorem empty_list {t : ByteArray} (h : ¬ t = ByteArray.empty) : t.toList.isEmpty = false ∧ (t.toList == []) = false ∧ ¬ t.toList = [] := by
  have hn : ¬ t.toList = [] := fun e => h (toList_inj (by rw [e, Go.ByteArray.toList_eq]; rfl))
  refine ⟨?_, ?_, hn⟩
  · cases hl : t.toList with
    | nil => exact absurd hl hn
    | cons a l => rfl
  · rw [beq_eq_false_iff_ne]; exact hn

set_option maxHeartbeats 1000000 in
theorem textsValid_any (A1 : Option Addr) (c1 : Nat) (A2 : Option Addr) (c2 : Nat) (bs : List ByteArray) (hs : List Bool) (w : World) (h : FeedAt w w.heap.size A1 A2 bs hs) (hl : hs.length = bs.length) :
    Calls Try.prog 42 #[.slice A1 bs.length c1, .slice A2 hs.length c2] w fun e w' => e = .returned (.bool (decide (TextsOk bs hs))) ∧ w = w' := by
  have hm := h.lb
  unfold maxLen at hm
  have HF := Lib.hid h
  obtain ⟨n, HN⟩ : ∃ n, Hid (bs.length = n) := ⟨_, rfl⟩
  have HL : Hid (hs.length = n) := by show _ = _; rw [hl]; exact HN.out
  rw [HL.out, HN.out]
  rw [HN.out] at hm
  clear hl h
  go_enter Try.func42, Try.ntmps42
  go_wp2
  go_loop [9] (fun i => ∃ k : Nat, k ≤ n ∧ i = .int .i64 k ∧ Hid (TextsTo bs hs k)) (fun i => n - (intOf i).toNat)
  case atStart => exact ⟨0, Nat.zero_le _, rfl, TextsTo.zero bs hs⟩
  case round =>
    obtain ⟨k, hk, rfl, HD⟩ := hrel
    by_cases hlt : k < n
    · have hlz : k < bs.length := by rw [HN.out]; exact hlt
      have hlh : k < hs.length := by rw [HL.out]; exact hlt
      have HLZ := Lib.hid hlz
      obtain ⟨b, o, rfl, hb, hc⟩ := HF.out.strs (by omega)
      obtain ⟨b2, o2, rfl, hb2, hc2⟩ := HF.out.bits (by omega)
      have hck := hc k hlz
      have hck2 := hc2 k hlh
      have hfit := HF.out.fit k
      unfold maxLen at hfit
      have hki : (k : Int) < (n : Int) := by omega
      obtain ⟨t, HT⟩ : ∃ t, Hid (sth bs k = t) := ⟨_, rfl⟩
      obtain ⟨c, HC⟩ : ∃ c, Hid (bth hs k = c) := ⟨_, rfl⟩
      rw [HT.out] at hck hfit
      rw [HC.out] at hck2
      clear hc hc2 hlz hlh
      by_cases h8 : t.size ≤ 8
      · by_cases he : t = ByteArray.empty
        · have HX : Hid (TextsTo bs hs (k + 1)) := HD.out.next (by rw [HT.out]; exact h8) (.inl (by rw [HT.out]; exact he))
          subst he
          go_wp2
          go_round
          case rel => exact ⟨k + 1, by omega, by go_num, HX⟩
          case measure => simp [intOf]; omega
        · have HE := Lib.hid he
          obtain ⟨e1, e2, e3⟩ := empty_list he
          cases c with
          | true =>
            have HX : Hid (TextsTo bs hs (k + 1)) := HD.out.next (by rw [HT.out]; exact h8) (.inr HC.out)
            go_wp2
            go_round
            case rel => exact ⟨k + 1, by omega, by go_num, HX⟩
            case measure => simp [intOf]; omega
          | false =>
            have HX : Hid (decide (TextsOk bs hs) = false) := textsOk_no HLZ.out (by rw [HT.out, HC.out]; rintro ⟨_, e | e⟩; exact HE.out e; cases e)
            go_wp2
            go_ret
            exact ⟨ret_bool HX.out.symm, rfl⟩
      · have HX : Hid (decide (TextsOk bs hs) = false) := textsOk_no HLZ.out (by rw [HT.out]; rintro ⟨e, _⟩; exact h8 e)
        have h9 : 8 < t.size := by omega
        clear h8
        go_wp2
        go_ret
        exact ⟨ret_bool HX.out.symm, rfl⟩
    · have HX : Hid (decide (TextsOk bs hs) = true) := by
        show _ = _
        rw [decide_eq_true_iff]
        exact fun j hj => HD.out j (by rw [HN.out] at hj; omega)
      go_wp2
      go_ret
      exact ⟨ret_bool HX.out.symm, rfl⟩

/-- Where false stands first, or -1. -/
def noneF (hs : List Bool) : Bool := decide (∀ k, k < hs.length → bth hs k = true)
theorem noneF_no {hs : List Bool} {k : Nat} (hk : k < hs.length) (h : bth hs k = false) : noneF hs = false := by
  unfold noneF; rw [decide_eq_false_iff_not]; intro e; have := e k hk; rw [h] at this; cases this
theorem wholeB_eq (hs : List Bool) : wholeB hs = (decide (0 < hs.length) && noneF hs) := by
  unfold wholeB noneF; exact Bool.decide_and _ _

set_option maxHeartbeats 1000000 in
theorem index_any (A : Option Addr) (cap : Nat) (hs : List Bool) (w : World) (h : BoolsAt w w.heap.size A hs) (hm : hs.length ≤ maxLen) :
    Calls Try.prog 114 #[.slice A hs.length cap, .bool false] w fun e w' => (∃ i : Int, e = .returned (.int .i64 i) ∧ decide (0 ≤ i) = !noneF hs ∧ -1 ≤ i ∧ i < 9223372036854775808) ∧ w = w' := by
  unfold maxLen at hm
  have HF := Lib.hid h
  obtain ⟨n, HN⟩ : ∃ n, Hid (hs.length = n) := ⟨_, rfl⟩
  rw [HN.out] at hm ⊢
  clear h
  go_enter Try.func114, Try.ntmps114
  go_wp2
  go_loop [8] (fun i => ∃ k : Nat, k ≤ n ∧ i = .int .i64 k ∧ Hid (∀ j, j < k → bth hs j = true)) (fun i => n - (intOf i).toNat)
  case atStart => exact ⟨0, Nat.zero_le _, rfl, fun k hk => absurd hk (Nat.not_lt_zero _)⟩
  case round =>
    obtain ⟨k, hk, rfl, HD⟩ := hrel
    by_cases hlt : k < n
    · have hlz : k < hs.length := by rw [HN.out]; exact hlt
      obtain ⟨b, o, rfl, hb, hc⟩ := HF.out (by omega)
      have hck := hc k hlz
      have hki : (k : Int) < (n : Int) := by omega
      cases hv : bth hs k with
      | true =>
        rw [hv] at hck
        have HX : Hid (∀ j, j < k + 1 → bth hs j = true) := fun j hj => by
          by_cases e : j = k
          · subst e; exact hv
          · exact HD.out j (by omega)
        clear hc hlz hv
        go_wp2
        go_round
        case rel => exact ⟨k + 1, by omega, by go_num, HX⟩
        case measure => simp [intOf]; omega
      | false =>
        rw [hv] at hck
        have HX := Lib.hid (noneF_no hlz hv)
        clear hc hlz hv
        go_wp2
        go_ret
        exact ⟨⟨k, rfl, by rw [HX.out]; simp, by omega, by omega⟩, rfl⟩
    · have HX : Hid (noneF hs = true) := by
        show _ = _
        unfold noneF; rw [decide_eq_true_iff]
        exact fun j hj => HD.out j (by rw [HN.out] at hj; omega)
      go_wp2
      go_ret
      exact ⟨⟨-1, rfl, by rw [HX.out]; rfl, by omega, by omega⟩, rfl⟩

set_option maxHeartbeats 1000000 in
theorem contains_any (A : Option Addr) (cap : Nat) (hs : List Bool) (w : World) (h : BoolsAt w w.heap.size A hs) (hm : hs.length ≤ maxLen) :
    Calls Try.prog 85 #[.slice A hs.length cap, .bool false] w fun e w' => e = .returned (.bool (!noneF hs)) ∧ w = w' := by
  have HF := Lib.hid h
  have HM := Lib.hid hm
  clear h hm
  go_enter Try.func85, Try.ntmps85
  go_wp2_with fail
  refine (index_any _ _ hs _ HF.out HM.out).mono ?_
  rintro e w' ⟨⟨i, rfl, hi, hi0, hi1⟩, rfl⟩
  have HI := Lib.hid hi
  clear hi
  go_wp2
  go_ret
  exact ⟨ret_bool HI.out, rfl⟩

set_option maxHeartbeats 1000000 in
theorem isWhole_any (p l d s : Int) (A1 : Option Addr) (n1 c1 : Nat) (A2 : Option Addr) (c2 : Nat) (hs : List Bool) (w : World) (h : BoolsAt w w.heap.size A2 hs) (hm : hs.length ≤ maxLen) :
    Calls Try.prog 43 #[feedV p l d s A1 n1 c1 A2 hs.length c2] w fun e w' => e = .returned (.bool (wholeB hs)) ∧ Below w.heap.size w w' := by
  have HF := Lib.hid h
  have HM := Lib.hid hm
  have HE := Lib.hid (wholeB_eq hs)
  unfold maxLen at hm
  clear h
  by_cases h0 : 0 < hs.length
  · have hd : decide (0 < hs.length) = true := by simp [h0]
    go_enter Try.func43, Try.ntmps43
    go_wp2_with fail
    refine (contains_any _ _ hs _ (HF.out.allocS _) HM.out).mono ?_
    rintro e w' ⟨rfl, rfl⟩
    go_wp2
    go_ret
    exact ⟨ret_bool (by rw [HE.out, hd]; simp), (Below.refl _ _).alloc (Nat.le_refl _) _⟩
  · have hz : hs = [] := List.eq_nil_of_length_eq_zero (by omega)
    subst hz
    go_enter Try.func43, Try.ntmps43
    go_wp2
    go_ret
    exact ⟨ret_bool wholeB_nil.symm, (Below.refl _ _).alloc (Nat.le_refl _) _⟩

end Go.Proofs.Ytgpmodidpdjhkaa
