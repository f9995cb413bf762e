/- The walk of FnTextByte: it returns true and changes nothing that was there. Condition: the codes' bytes lie in memory. -/
import Derived.Test.YtkoamlnkpenjeaaTextWalks
import Derived.BigRegion
import Derived.Laws.BitsAllLaws
namespace Go.Proofs.Ytkoamlnkpenjeaa
open Go.RowKit

theorem size_pos {s : ByteArray} (h : ¬ s = ByteArray.empty) : 0 < s.size := by
  rcases Nat.eq_zero_or_pos s.size with k | k
  · exact absurd (ByteArray.size_eq_zero_iff.mp k) h
  · exact k

theorem byteZ_left (d e b : Int) (h : 0 ≤ d ∧ d < 991) (k : 0 ≤ e ∧ e < 991) (hne : d ≠ e) : byteZ d b ≠ byteZ e b := by unfold byteZ; omega
theorem byteZ_right (d b c : Int) (h : 0 ≤ b ∧ b < 256) (k : 0 ≤ c ∧ c < 256) (hne : b ≠ c) : byteZ d b ≠ byteZ d c := by unfold byteZ; omega
theorem textFrom_ne (l : List UInt8) : ∀ d e : Int, 0 ≤ d ∧ d < 991 → 0 ≤ e ∧ e < 991 → d ≠ e → textFrom d l ≠ textFrom e l := by
  induction l with
  | nil => intro d e _ _ h; exact h
  | cons b l ih => intro d e hd he h; exact ih _ _ (byteZ_bd _ _) (byteZ_bd _ _) (byteZ_left _ _ _ hd he h)
theorem textZ_parts (l r : List UInt8) (c : UInt8) : textZ (l ++ [c] ++ r) = textFrom (byteZ (textZ l) (c.toNat : Int)) r := by
  unfold textZ textFrom; simp [List.foldl_append]
theorem textZ_ne (l r : List UInt8) (c e : UInt8) (h : c.toNat ≠ e.toNat) : textZ (l ++ [c] ++ r) ≠ textZ (l ++ [e] ++ r) := by
  rw [textZ_parts, textZ_parts]
  have h1 := c.toNat_lt
  have h2 := e.toNat_lt
  exact textFrom_ne r _ _ (byteZ_bd _ _) (byteZ_bd _ _) (byteZ_right _ _ _ (by omega) (by omega) (by omega))
theorem whole (s : ByteArray) (m : Nat) (h : m < s.size) : s.data.toList = s.data.toList.take m ++ [s[m]] ++ s.data.toList.drop (m + 1) := by
  rw [← take_snoc s m h, List.take_append_drop]
theorem other_size (s : ByteArray) (m : Nat) (c : UInt8) (h : m < s.size) : (s.extract 0 m ++ ByteArray.empty.push c ++ s.extract (m + 1) s.size).size = s.size := by
  rw [ByteArray.size_append, push_size _ _ _ rfl, ByteArray.size_extract, ByteArray.size_extract]
  omega
theorem other_list (s : ByteArray) (m : Nat) (c : UInt8) : (s.extract 0 m ++ ByteArray.empty.push c ++ s.extract (m + 1) s.size).data.toList = s.data.toList.take m ++ [c] ++ s.data.toList.drop (m + 1) := by
  have h : s.data.toList.length = s.size := by simp
  simp [ByteArray.data_append, ByteArray.data_extract, Array.toList_extract, List.extract, ByteArray.data_push]
  rw [List.take_of_length_le (by rw [List.length_drop, h]; omega)]
theorem other_ne (s : ByteArray) (m : Nat) (c : UInt8) (h : m < s.size) (h8 : s.size ≤ 8) (hc : c.toNat ≠ s[m].toNat) : textOr (s.extract 0 m ++ ByteArray.empty.push c ++ s.extract (m + 1) s.size) ≠ textZ s.data.toList := by
  have e := textZ_ne (s.data.toList.take m) (s.data.toList.drop (m + 1)) c s[m] hc
  rw [← whole s m h] at e
  rw [textOr_y (by rw [other_size s m c h]; exact h8), other_list s m c]
  exact e
theorem xor_ne (a b : Nat) (h : 0 < b) : a ^^^ b ≠ a := by
  intro e
  have : a ^^^ (a ^^^ b) = a ^^^ a := by rw [e]
  rw [← Nat.xor_assoc, Nat.xor_self, Nat.zero_xor] at this
  omega

set_option maxHeartbeats 1000000 in
theorem walkTextByte (A : Option Addr) (len cap : Nat) (A1 : Option Addr) (len1 cap1 : Nat) (w : World) (hI : In w A len cap) (hI1 : In w A1 len1 cap1) :
    Calls Try.prog 3 #[.slice A len cap, .slice A1 len1 cap1] w fun e w' => e = .returned (.bool true) ∧ Below w.heap.size w w' := by
  have hm := hI.len_le
  have hm1 := hI1.len_le
  unfold maxLen at hm hm1
  have HI := Lib.hid hI
  clear hI hI1
  by_cases hlen : len ≤ 1048576
  · by_cases hlen1 : len1 ≤ 1048576
    · go_enter Try.func3, Try.ntmps3
      go_wp2_with fail
      refine (drawDigestText_any A len cap _ HI.out).mono ?_
      rintro e w1 ⟨s, hs, rfl, hbel⟩
      have HB := Lib.hid hbel
      have hzz := hbel.size
      clear hbel
      go_wp2_with fail
      refine (text_any _ _ (small_max (by omega))).mono ?_
      rintro e w' ⟨rfl, rfl⟩
      go_wp2_with fail
      refine (stext_any _ _ (small_max (by omega))).mono ?_
      rintro e w' ⟨rfl, rfl⟩
      rcases textOr_cases s with ⟨h8, h⟩ | ⟨h8, h, h0, h1⟩
      · rw [h]
        clear h
        go_wp2
        go_ret
        exact ⟨rfl, HB.out⟩
      · rw [h]
        clear h
        have hd : decide (textZ s.data.toList < 0) = false := by simp; omega
        obtain ⟨t, ht⟩ : ∃ t, textZ s.data.toList = t := ⟨_, rfl⟩
        rw [ht] at h0 h1 hd ⊢
        have HT := Lib.hid ht
        clear ht
        cases hE : s.toList.isEmpty
        · have hne : ¬ s = ByteArray.empty := by rintro rfl; simp at hE
          have hpos := size_pos hne
          obtain ⟨m, hmm⟩ : ∃ m, len1 % s.size = m := ⟨_, rfl⟩
          have hml : m < s.size := by rw [← hmm]; exact Nat.mod_lt _ hpos
          have E1 := Lib.hid (hmm ▸ tmod_nat len1 s.size)
          have E2 : Hid ((len1 : Int) % (s.size : Int) = (m : Int)) := by rw [← hmm]; rfl
          clear hmm
          have k1 := E1.out
          have k2 := E2.out
          go_wp2_with fail
          clear k1 k2
          obtain ⟨q, hq⟩ : ∃ q, len1 % 3 = q := ⟨_, rfl⟩
          have hq3 : q < 3 := by rw [← hq]; exact Nat.mod_lt _ (by omega)
          have E3 := Lib.hid (hq ▸ tmod_nat len1 3)
          clear hq
          have hb := s[m].toNat_lt
          obtain ⟨X, hX⟩ : ∃ X, s[m].toNat ^^^ (1 + q) = X := ⟨_, rfl⟩
          have hX256 : X < 256 := by rw [← hX]; exact Nat.xor_lt_two_pow (n := 8) (by omega) (by omega)
          have E4 : Hid (bits .xor .u8 (s[m].toNat : Int) (1 + (q : Int)) = (X : Int)) := by
            have h := u8_xor_nat s[m].toNat (1 + q) (by omega) (by omega)
            rw [hX] at h
            exact h
          have k3 : (len1 : Int).tmod 3 = (q : Int) := E3.out
          have k4 := E4.out
          have k5 : IntKind.i64.wrap (1 + (q : Int)) = 1 + (q : Int) := IntWalk.i64_in _ (by omega)
          have k6 : IntKind.u8.wrap (1 + (q : Int)) = 1 + (q : Int) := IntWalk.u8_in _ (by omega)
          have k7 : IntKind.i64.wrap ((m : Int) + 1) = (m : Int) + 1 := IntWalk.i64_in _ (by omega)
          have hcv : (convert 22 9 (.slice (some ⟨w1.heap.size, 0, none⟩) 1 1)).run Try.prog (w1.alloc (.cells #[.int .u8 (X : Int)] 5)).drew = .ok (.string (ByteArray.empty.push (UInt8.ofNat X))) (w1.alloc (.cells #[.int .u8 (X : Int)] 5)).drew := run_one_byte w1.drew (X : Int)
          have hXne : X ≠ s[m].toNat := by rw [← hX]; exact xor_ne _ _ (by omega)
          have hU := other_ne s m (UInt8.ofNat X) hml h8 (by rw [UInt8.toNat_ofNat', Nat.mod_eq_of_lt hX256]; exact hXne)
          rw [HT.out] at hU
          have HX := Lib.hid hX
          have HU := Lib.hid hU
          clear hX hXne hU
          go_region
          clear hcv k3 k4 k5 k6 k7
          go_wp2_with fail
          refine (text_any _ _ (small_max (by rw [other_size s m _ hml]; omega))).mono ?_
          rintro e w' ⟨rfl, rfl⟩
          have hu := HU.out
          obtain ⟨u, hue⟩ : ∃ u, textOr (s.extract 0 m ++ ByteArray.empty.push (UInt8.ofNat X) ++ s.extract (m + 1) s.size) = u := ⟨_, rfl⟩
          rw [hue] at hu ⊢
          have huf : (u != t) = true := by simpa using hu
          clear hue hu
          go_wp2
          go_ret
          exact ⟨rfl, (HB.out.alloc hzz _).drew⟩
        · go_wp2
          go_ret
          exact ⟨rfl, HB.out⟩
    · have h9 : 1048576 < len1 := by omega
      clear hlen1
      go_enter Try.func3, Try.ntmps3
      go_wp2
      go_ret
      exact ⟨rfl, Below.refl _ _⟩
  · have h9 : 1048576 < len := by omega
    clear hlen
    go_enter Try.func3, Try.ntmps3
    go_wp2
    go_ret
    exact ⟨rfl, Below.refl _ _⟩

end Go.Proofs.Ytkoamlnkpenjeaa
