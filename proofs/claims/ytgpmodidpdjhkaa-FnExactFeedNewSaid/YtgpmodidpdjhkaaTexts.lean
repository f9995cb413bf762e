/- Contracts of DigestText and of its model: both return textOr of the text, and leave the world as it was. Condition: the text is no longer than a text can be. -/
import Derived.Test.YtgpmodidpdjhkaaDig
namespace Go.Proofs.Ytgpmodidpdjhkaa
open Go.RowKit

set_option maxHeartbeats 400000 in
theorem byte_any (d b : Int) (w : World) (h0 : 0 ≤ d) (h1 : d < 991) (h2 : 0 ≤ b) (h3 : b < 256) :
    Calls Try.prog 101 #[.int .i64 d, .int .u8 b] w fun e w' => e = .returned (.int .i64 (byteZ d b)) ∧ w = w' := by
  go_enter Try.func101, Try.ntmps101
  go_wp2
  go_ret
  exact ⟨ret_int (by unfold byteZ; omega), rfl⟩

def textFrom (d : Int) (l : List UInt8) : Int := l.foldl (fun d b => byteZ d (b.toNat : Int)) d
def textZ (l : List UInt8) : Int := textFrom 11 l
theorem byteZ_bd (d b : Int) : 0 ≤ byteZ d b ∧ byteZ d b < 991 := by unfold byteZ; omega
theorem textFrom_bd (l : List UInt8) : ∀ d : Int, 0 ≤ d ∧ d < 991 → 0 ≤ textFrom d l ∧ textFrom d l < 991 := by
  induction l with
  | nil => intro d h; exact h
  | cons b l ih => intro d h; exact ih _ (byteZ_bd _ _)
theorem textZ_bd (l : List UInt8) : 0 ≤ textZ l ∧ textZ l < 991 := textFrom_bd l 11 (by omega)
theorem textZ_snoc (l : List UInt8) (c : UInt8) : textZ (l ++ [c]) = byteZ (textZ l) (c.toNat : Int) := by
  unfold textZ textFrom; rw [List.foldl_append]; rfl
theorem take_snoc (s : ByteArray) (k : Nat) (h : k < s.size) : s.data.toList.take (k + 1) = s.data.toList.take k ++ [s[k]] := by
  rw [List.take_succ_eq_append_getElem (by simpa using h)]; rfl
theorem textZ_take (s : ByteArray) (k : Nat) (h : k < s.size) : textZ (s.data.toList.take (k + 1)) = byteZ (textZ (s.data.toList.take k)) (s[k].toNat : Int) := by
  rw [take_snoc s k h, textZ_snoc]

def textOr (s : ByteArray) : Int := if s.size ≤ 8 then textZ s.data.toList else -1
theorem textOr_y {s : ByteArray} (h : s.size ≤ 8) : textOr s = textZ s.data.toList := by unfold textOr; rw [if_pos h]
theorem textOr_n {s : ByteArray} (h : ¬ s.size ≤ 8) : textOr s = -1 := by unfold textOr; rw [if_neg h]
theorem take_all (s : ByteArray) (k : Nat) (h : s.size ≤ k) : s.data.toList.take k = s.data.toList := by
  rw [List.take_of_length_le (by simpa using h)]

set_option maxHeartbeats 800000 in
theorem text_any (s : ByteArray) (w : World) (hs : s.size ≤ maxLen) :
    Calls Try.prog 60 #[.string s] w fun e w' => e = .returned (.int .i64 (textOr s)) ∧ w = w' := by
  by_cases h8 : s.size ≤ 8
  · have HE := Lib.hid (textOr_y h8)
    clear hs
    go_enter Try.func60, Try.ntmps60
    go_wp2
    go_loop [3, 10] (fun n i => ∃ k : Nat, k ≤ s.size ∧ i = .int .i64 k ∧ n = .int .i64 (textZ (s.data.toList.take k))) (fun _ i => s.size - (intOf i).toNat)
    case atStart => exact ⟨0, Nat.zero_le _, rfl, rfl⟩
    case round =>
      obtain ⟨k, hk, rfl, rfl⟩ := hrel
      obtain ⟨hd0, hd1⟩ := textZ_bd (s.data.toList.take k)
      by_cases hlt : k < s.size
      · have HS := Lib.hid (textZ_take s k hlt)
        have hb0 : (s[k].toNat : Int) < 256 := by have := s[k].toNat_lt; omega
        go_wp2_with fail
        refine (byte_any _ _ _ (by omega) (by omega) (by omega) (by omega)).mono ?_
        rintro e w' ⟨rfl, rfl⟩
        go_wp2
        go_round
        case rel => exact ⟨k + 1, by omega, by go_num, by rw [HS.out]⟩
        case measure => simp [intOf]; omega
      · go_wp2
        go_ret
        exact ⟨ret_int (by rw [HE.out, take_all s k (by omega)]), rfl⟩
  · have HE := Lib.hid (textOr_n h8)
    unfold maxLen at hs
    have h9 : 8 < s.size := by omega
    clear h8
    go_enter Try.func60, Try.ntmps60
    go_wp2
    go_ret
    exact ⟨ret_int HE.out.symm, rfl⟩

set_option maxHeartbeats 800000 in
theorem stext1_any (s : ByteArray) (w : World) (hs : s.size ≤ 8) :
    Calls Try.prog 97 #[.string s] w fun e w' => e = .returned (.int .i64 (textZ s.data.toList)) ∧ w = w' := by
  go_enter Try.func97, Try.ntmps97
  go_wp2
  go_loop [3, 4] (fun n i => ∃ k : Nat, k ≤ s.size ∧ i = .int .i64 k ∧ n = .int .i64 (textZ (s.data.toList.take k))) (fun _ i => s.size - (intOf i).toNat)
  case atStart => exact ⟨0, Nat.zero_le _, rfl, rfl⟩
  case round =>
    obtain ⟨k, hk, rfl, rfl⟩ := hrel
    obtain ⟨hd0, hd1⟩ := textZ_bd (s.data.toList.take k)
    by_cases hlt : k < s.size
    · have HS := Lib.hid (textZ_take s k hlt)
      have hb0 : (s[k].toNat : Int) < 256 := by have := s[k].toNat_lt; omega
      go_wp2
      go_round
      case rel => exact ⟨k + 1, by omega, by go_num, by rw [HS.out]; unfold byteZ; go_num⟩
      case measure => simp [intOf]; omega
    · go_wp2
      go_ret
      exact ⟨ret_int (by rw [take_all s k (by omega)]), rfl⟩



end Go.Proofs.Ytgpmodidpdjhkaa
