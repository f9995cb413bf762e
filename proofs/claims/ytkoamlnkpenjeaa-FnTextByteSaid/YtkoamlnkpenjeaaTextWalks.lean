/- The walks of FnTextEmpty, FnTextNext: each returns true and changes nothing that was there. Condition: the codes' bytes lie in memory. -/
import Derived.Test.YtkoamlnkpenjeaaDrawText
import Derived.Test.YtkoamlnkpenjeaaTexts
import Derived.Test.YtkoamlnkpenjeaaIn
namespace Go.Proofs.Ytkoamlnkpenjeaa
open Go.RowKit

theorem textOr_cases (s : ByteArray) : (8 < s.size ∧ textOr s = -1) ∨ (s.size ≤ 8 ∧ textOr s = textZ s.data.toList ∧ 0 ≤ textZ s.data.toList ∧ textZ s.data.toList < 991) := by
  unfold textOr
  split
  · rename_i h; exact .inr ⟨h, rfl, (textZ_bd _).1, (textZ_bd _).2⟩
  · rename_i h; exact .inl ⟨by omega, rfl⟩
theorem textOr_empty : textOr { data := #[] } = 11 := rfl
theorem small_max {n : Nat} (h : n ≤ 1000) : n ≤ maxLen := by unfold maxLen; omega

set_option maxHeartbeats 1000000 in
theorem walkTextEmpty (A : Option Addr) (len cap : Nat) (w : World) (hI : In w A len cap) :
    Calls Try.prog 4 #[.slice A len cap] w fun e w' => e = .returned (.bool true) ∧ Below w.heap.size w w' := by
  have hm := hI.len_le
  unfold maxLen at hm
  have HI := Lib.hid hI
  clear hI
  by_cases hlen : len ≤ 1048576
  · go_enter Try.func4, Try.ntmps4
    go_wp2_with fail
    refine (drawDigestText_any A len cap _ HI.out).mono ?_
    rintro e w1 ⟨s, hs, rfl, hbel⟩
    have HB := Lib.hid hbel
    clear hbel
    go_wp2_with fail
    refine (text_any _ _ (small_max (by omega))).mono ?_
    rintro e w' ⟨rfl, rfl⟩
    go_wp2_with fail
    refine (stext_any _ _ (small_max (by omega))).mono ?_
    rintro e w' ⟨rfl, rfl⟩
    rcases textOr_cases s with ⟨h8, h⟩ | ⟨h8, h, h0, h1⟩
    · rw [h]
      clear h
      go_wp2_with fail
      refine (text_any _ _ (Nat.zero_le _)).mono ?_
      rintro e w' ⟨rfl, rfl⟩
      rw [textOr_empty]
      go_wp2
      go_ret
      exact ⟨ret_bool (by simp; omega), HB.out⟩
    · rw [h]
      clear h
      go_wp2_with fail
      refine (text_any _ _ (Nat.zero_le _)).mono ?_
      rintro e w' ⟨rfl, rfl⟩
      rw [textOr_empty]
      go_wp2
      go_ret
      exact ⟨ret_bool (by simp; omega), HB.out⟩
  · have h9 : 1048576 < len := by omega
    clear hlen
    go_enter Try.func4, Try.ntmps4
    go_wp2
    go_ret
    exact ⟨rfl, Below.refl _ _⟩

theorem textOr_snoc (s : ByteArray) (c : UInt8) (h : s.size < 8) : textOr (s ++ ByteArray.empty.push c) = byteZ (textZ s.data.toList) (c.toNat : Int) := by
  rw [textOr_y (by rw [push_size s c _ rfl]; omega), ← textZ_snoc]
  congr 1
theorem byte97 (n : Nat) (h : n < 26) : (97 + UInt8.ofNat n).toNat = 97 + n := by
  rw [UInt8.toNat_add, UInt8.toNat_ofNat']
  show (97 + n % 256) % 256 = _
  omega

set_option maxHeartbeats 1000000 in
theorem walkTextNext (A : Option Addr) (len cap : Nat) (A1 : Option Addr) (len1 cap1 : Nat) (w : World) (hI : In w A len cap) (hI1 : In w A1 len1 cap1) :
    Calls Try.prog 6 #[.slice A len cap, .slice A1 len1 cap1] w fun e w' => e = .returned (.bool true) ∧ Below w.heap.size w w' := by
  have hm := hI.len_le
  have hm1 := hI1.len_le
  unfold maxLen at hm hm1
  have HI := Lib.hid hI
  clear hI hI1
  by_cases hlen : len ≤ 1048576
  · by_cases hlen1 : len1 ≤ 1048576
    · go_enter Try.func6, Try.ntmps6
      go_wp2_with fail
      refine (drawDigestText_any A len cap _ HI.out).mono ?_
      rintro e w1 ⟨s, hs, rfl, hbel⟩
      have HB := Lib.hid hbel
      have hzz := hbel.size
      clear hbel
      go_wp2_with fail
      refine (text_any _ _ (small_max (by omega))).mono ?_
      rintro e w' ⟨rfl, rfl⟩
      go_wp2_with fail
      refine (stext_any _ _ (small_max (by omega))).mono ?_
      rintro e w' ⟨rfl, rfl⟩
      rcases textOr_cases s with ⟨h8, h⟩ | ⟨h8, h, h0, h1⟩
      · rw [h]
        clear h
        go_wp2
        go_ret
        exact ⟨rfl, HB.out⟩
      · rw [h]
        clear h
        by_cases he : s.size = 8
        · have he8 : ((s.size : Int) == 8) = true := by simp; omega
          have hd : decide (textZ s.data.toList < 0) = false := by simp; omega
          clear he
          go_wp2
          go_ret
          exact ⟨rfl, HB.out⟩
        · have he8 : ((s.size : Int) == 8) = false := by simp; omega
          have hd : decide (textZ s.data.toList < 0) = false := by simp; omega
          obtain ⟨t, ht⟩ : ∃ t, textZ s.data.toList = t := ⟨_, rfl⟩
          rw [ht] at h0 h1 hd ⊢
          have HT := Lib.hid ht
          clear ht
          have hcv := run_one_byte w1 (97 + (len1 : Int) % 26)
          have hc := byte97 (len1 % 26) (Nat.mod_lt _ (by omega))
          obtain ⟨c, hcc⟩ : ∃ c : UInt8, 97 + UInt8.ofNat (len1 % 26) = c := ⟨_, rfl⟩
          rw [hcc] at hc
          have HC := Lib.hid hcc
          have HN := Lib.hid hc
          clear hcc hc
          go_wp2_with fail
          rw [HC.out]
          refine (text_any _ _ (small_max (by rw [push_size s c _ rfl]; omega))).mono ?_
          rintro e w' ⟨rfl, rfl⟩
          rw [textOr_snoc s c (by omega), HT.out, HN.out]
          have hb0 : 0 ≤ (len1 : Int) % 26 := by omega
          go_wp2
          go_ret
          exact ⟨ret_bool (by unfold byteZ; simp; omega), HB.out.alloc hzz _⟩
    · have h9 : 1048576 < len1 := by omega
      clear hlen1
      go_enter Try.func6, Try.ntmps6
      go_wp2
      go_ret
      exact ⟨rfl, Below.refl _ _⟩
  · have h9 : 1048576 < len := by omega
    clear hlen
    go_enter Try.func6, Try.ntmps6
    go_wp2
    go_ret
    exact ⟨rfl, Below.refl _ _⟩

end Go.Proofs.Ytkoamlnkpenjeaa
