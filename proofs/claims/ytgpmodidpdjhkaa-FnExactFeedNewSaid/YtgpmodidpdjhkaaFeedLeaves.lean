/- Contracts of textDigests, l11Leaves, leavesOf: the digests of texts in memory of the call's own. Condition: the texts lie in memory, at most 2^20 of them, each of at most 8 bytes where the function asks for it. -/
import Derived.Test.YtgpmodidpdjhkaaFeedTexts
namespace Go.Proofs.Ytgpmodidpdjhkaa
open Go.RowKit
set_option linter.unusedVariables false

/-- Where the list of digests stands. -/
structure Leafing (w : World) (zs : List Int) (X : Option Addr) (c : Nat) (w' : World) : Prop where
  own : OwnInts w' w.heap.size X c zs
  below : Below w.heap.size w w'
theorem Leafing.app {w w1 w2 : World} {zs ys : List Int} {X : Option Addr} {c : Nat} {v : Value} (h : Leafing w zs X c w1) (o : Obj) (hA : Appended (w1.alloc o) w.heap.size X zs.length c ys v w2) : ∃ X' c', v = .slice X' ys.length c' ∧ Leafing w ys X' c' w2 := by
  obtain ⟨⟨X', c', hv, ho⟩, hg, hb⟩ := hA
  exact ⟨X', c', hv, ho, (h.below.alloc h.below.size o).trans hb⟩
theorem leafL_to_length (bs : List ByteArray) (k : Nat) (h : k ≤ bs.length) : (leafL (bs.take k)).length = k := by rw [leafL_length, List.length_take]; omega

set_option maxHeartbeats 4000000 in
set_option maxRecDepth 100000 in
theorem textDigests_any (A : Option Addr) (cap : Nat) (bs : List ByteArray) (w : World) (hI : StrsAt w w.heap.size A bs) (hf : Fit bs) (hm : bs.length ≤ 1048576) :
    Calls Try.prog 44 #[.slice A bs.length cap] w (RetInts w (leafL bs)) := by
  have HI := Lib.hid hI
  have HF := Lib.hid hf
  obtain ⟨m, HM⟩ : ∃ m, Hid (bs.length = m) := ⟨_, rfl⟩
  rw [HM.out] at hm ⊢
  clear hI hf
  go_enter Try.func44, Try.ntmps44
  go_wp2
  go_loopw [3, 9] (fun p i w' => ∃ (k c : Nat) (X : Option Addr), k ≤ m ∧ i = .int .i64 k ∧ p = .slice X k c ∧ Hid (Leafing w (leafL (bs.take k)) X c w')) (fun _ i _ => m - (intOf i).toNat)
  case atStart => exact ⟨0, 0, _, by omega, rfl, rfl, OwnInts.new w, (Below.refl _ _).alloc (Nat.le_refl _) _⟩
  case round =>
    obtain ⟨k, c, X, hk, rfl, rfl, HW⟩ := hrel
    have hsz := HW.out.below.size
    by_cases hlt : k < m
    · have hkz : k < bs.length := by rw [HM.out]; exact hlt
      obtain ⟨blk, o, rfl, hbl, hc⟩ := (HI.out.belowS HW.out.below) (by omega)
      have hck := hc k hkz
      have hki : (k : Int) < (m : Int) := by omega
      have HE := Lib.hid (leafL_next bs k hkz)
      have HL := Lib.hid (leafL_to_length bs k (by omega))
      have HFK := Lib.hid (HF.out k)
      clear hc hkz
      go_wp2_with (first
        | (go_at_call 60; refine (text_any _ _ HFK.out).mono ?_; rintro e w' ⟨rfl, rfl⟩)
        | (at_builtin; refine wpList_app_ints rfl (.tmp 13) (.tmp 16) rfl _ w.heap.size X c (leafL (bs.take k)) (by rw [HL.out]; rfl) _ _ [textOr (sth bs k)] rfl (HW.out.own.alloc _) (one_new _ _) (by rw [HL.out]; simp; omega) (by simp; omega) (by simp) ?_; intro v w4 hA))
      obtain ⟨X', c', rfl, hW4⟩ := HW.out.app _ hA
      rw [← HE.out] at hW4
      have HW4 := Lib.hid hW4
      have hlen : (leafL (bs.take k) ++ [textOr (sth bs k)]).length = k + 1 := by rw [List.length_append, HL.out]; rfl
      rw [hlen]
      clear hA hW4 hlen
      go_wp2
      go_roundw
      case rel => exact ⟨k + 1, c', X', by omega, by go_num, by simp, HW4⟩
      case measure => simp [intOf]; omega
    · have hkm : k = m := by omega
      subst hkm
      have HW' : Hid (Leafing w (leafL bs) X c wr) := by
        have h := HW.out
        rw [List.take_of_length_le (by rw [HM.out]; omega)] at h
        exact h
      go_wp2
      go_ret
      exact ⟨X, c, by rw [leafL_length, HM.out]; rfl, HW'.out.own, HW'.out.below⟩

set_option maxHeartbeats 4000000 in
set_option maxRecDepth 100000 in
theorem leavesOf_any (A : Option Addr) (cap : Nat) (bs : List ByteArray) (w : World) (hI : StrsAt w w.heap.size A bs) (hf : Fit bs) (hm : bs.length ≤ 1048576) :
    Calls Try.prog 19 #[.slice A bs.length cap] w (RetInts w (leafL bs)) := by
  have HI := Lib.hid hI
  have HF := Lib.hid hf
  obtain ⟨m, HM⟩ : ∃ m, Hid (bs.length = m) := ⟨_, rfl⟩
  rw [HM.out] at hm ⊢
  clear hI hf
  go_enter Try.func19, Try.ntmps19
  go_wp2
  go_loopw [3, 4] (fun p i w' => ∃ (k c : Nat) (X : Option Addr), k ≤ m ∧ i = .int .i64 k ∧ p = .slice X k c ∧ Hid (Leafing w (leafL (bs.take k)) X c w')) (fun _ i _ => m - (intOf i).toNat)
  case atStart => exact ⟨0, 0, _, by omega, rfl, rfl, OwnInts.new w, (Below.refl _ _).alloc (Nat.le_refl _) _⟩
  case round =>
    obtain ⟨k, c, X, hk, rfl, rfl, HW⟩ := hrel
    have hsz := HW.out.below.size
    by_cases hlt : k < m
    · have hkz : k < bs.length := by rw [HM.out]; exact hlt
      obtain ⟨blk, o, rfl, hbl, hc⟩ := (HI.out.belowS HW.out.below) (by omega)
      have hck := hc k hkz
      have hki : (k : Int) < (m : Int) := by omega
      have hkd : decide (k < m) = true := by simp [hlt]
      have HE := Lib.hid (leafL_next bs k hkz)
      have HL := Lib.hid (leafL_to_length bs k (by omega))
      have HFK := Lib.hid (HF.out k)
      clear hc hkz
      go_wp2_with (first
        | (go_at_call 60; refine (text_any _ _ HFK.out).mono ?_; rintro e w' ⟨rfl, rfl⟩)
        | (at_builtin; refine wpList_app_ints rfl (.tmp 12) (.tmp 18) rfl _ w.heap.size X c (leafL (bs.take k)) (by rw [HL.out]; rfl) _ _ [textOr (sth bs k)] rfl (HW.out.own.alloc _) (one_new _ _) (by rw [HL.out]; simp; omega) (by simp; omega) (by simp) ?_; intro v w4 hA))
      obtain ⟨X', c', rfl, hW4⟩ := HW.out.app _ hA
      rw [← HE.out] at hW4
      have HW4 := Lib.hid hW4
      have hlen : (leafL (bs.take k) ++ [textOr (sth bs k)]).length = k + 1 := by rw [List.length_append, HL.out]; rfl
      rw [hlen]
      clear hA hW4 hlen
      go_wp2
      go_roundw
      case rel => exact ⟨k + 1, c', X', by omega, by go_num, by simp, HW4⟩
      case measure => simp [intOf]; omega
    · have hkm : k = m := by omega
      subst hkm
      have hkd : decide (k < k) = false := by simp
      have HW' : Hid (Leafing w (leafL bs) X c wr) := by
        have h := HW.out
        rw [List.take_of_length_le (by rw [HM.out]; omega)] at h
        exact h
      go_wp2
      go_ret
      exact ⟨X, c, by rw [leafL_length, HM.out]; rfl, HW'.out.own, HW'.out.below⟩

/-- No text is too long for a digest. -/
def Short (bs : List ByteArray) : Prop := ∀ k, k < bs.length → (sth bs k).size ≤ 8

set_option maxHeartbeats 4000000 in
set_option maxRecDepth 100000 in
theorem sleaves_any (A : Option Addr) (cap : Nat) (bs : List ByteArray) (w : World) (hI : StrsAt w w.heap.size A bs) (hf : Short bs) (hm : bs.length ≤ 1048576) :
    Calls Try.prog 54 #[.slice A bs.length cap] w (RetInts w (leafL bs)) := by
  have HI := Lib.hid hI
  have HF := Lib.hid hf
  obtain ⟨m, HM⟩ : ∃ m, Hid (bs.length = m) := ⟨_, rfl⟩
  rw [HM.out] at hm ⊢
  clear hI hf
  go_enter Try.func54, Try.ntmps54
  go_wp2
  go_loopw [3, 4] (fun p i w' => ∃ (k c : Nat) (X : Option Addr), k ≤ m ∧ i = .int .i64 k ∧ p = .slice X k c ∧ Hid (Leafing w (leafL (bs.take k)) X c w')) (fun _ i _ => m - (intOf i).toNat)
  case atStart => exact ⟨0, 0, _, by omega, rfl, rfl, OwnInts.new w, (Below.refl _ _).alloc (Nat.le_refl _) _⟩
  case round =>
    obtain ⟨k, c, X, hk, rfl, rfl, HW⟩ := hrel
    have hsz := HW.out.below.size
    by_cases hlt : k < m
    · have hkz : k < bs.length := by rw [HM.out]; exact hlt
      obtain ⟨blk, o, rfl, hbl, hc⟩ := (HI.out.belowS HW.out.below) (by omega)
      have hck := hc k hkz
      have hki : (k : Int) < (m : Int) := by omega
      have hkd : decide (k < m) = true := by simp [hlt]
      have HE := Lib.hid (leafL_next bs k hkz)
      have HL := Lib.hid (leafL_to_length bs k (by omega))
      have HFK := Lib.hid (HF.out k hkz)
      have HTE := Lib.hid (textOr_y HFK.out)
      clear hc hkz
      go_wp2_with (first
        | (go_at_call 97; refine (stext1_any _ _ HFK.out).mono ?_; rintro e w' ⟨rfl, rfl⟩)
        | (at_builtin; refine wpList_app_ints rfl (.tmp 12) (.tmp 18) rfl _ w.heap.size X c (leafL (bs.take k)) (by rw [HL.out]; rfl) _ _ [textOr (sth bs k)] (by rw [HTE.out]; rfl) (HW.out.own.alloc _) (by rw [HTE.out]; exact one_new _ _) (by rw [HL.out]; simp; omega) (by simp; omega) (by simp) ?_; intro v w4 hA))
      obtain ⟨X', c', rfl, hW4⟩ := HW.out.app _ hA
      rw [← HE.out] at hW4
      have HW4 := Lib.hid hW4
      have hlen : (leafL (bs.take k) ++ [textOr (sth bs k)]).length = k + 1 := by rw [List.length_append, HL.out]; rfl
      rw [hlen]
      clear hA hW4 hlen
      go_wp2
      go_roundw
      case rel => exact ⟨k + 1, c', X', by omega, by go_num, by simp, HW4⟩
      case measure => simp [intOf]; omega
    · have hkm : k = m := by omega
      subst hkm
      have hkd : decide (k < k) = false := by simp
      have HW' : Hid (Leafing w (leafL bs) X c wr) := by
        have h := HW.out
        rw [List.take_of_length_le (by rw [HM.out]; omega)] at h
        exact h
      go_wp2
      go_ret
      exact ⟨X, c, by rw [leafL_length, HM.out]; rfl, HW'.out.own, HW'.out.below⟩

end Go.Proofs.Ytgpmodidpdjhkaa
