/- Contracts of l91Text and DrawDigestText: they return a text of at most 10 bytes, and change nothing that was there before. Condition: the code's bytes lie in memory. -/
import Derived.Test.YtkoamlnkpenjeaaOpen
namespace Go.Proofs.Ytkoamlnkpenjeaa
open Go.RowKit

/-- string([]byte{y}), the slice just made. -/
theorem run_one_byte (w : World) (y : Int) :
    (convert 22 9 (.slice (some ⟨w.heap.size, 0, none⟩) 1 1)).run Try.prog (w.alloc (.cells #[.int .u8 y] 5)) = .ok (.string (ByteArray.empty.push (UInt8.ofNat y.toNat))) (w.alloc (.cells #[.int .u8 y] 5)) := by
  rw [run_convert_bytes_string _ 22 9 5 _ _ _ Try.underlying22 Try.underlying5 Try.underlying9]
  have h : (loadCells ⟨w.heap.size, 0, none⟩ 1).run Try.prog (w.alloc (.cells #[.int .u8 y] 5)) = .ok ([y].map (Value.int .u8)).toArray (w.alloc (.cells #[.int .u8 y] 5)) := by
    refine run_loadCells_list _ ⟨w.heap.size, 0, none⟩ [.int .u8 y] (fun j v hj => ?_)
    rcases j with _ | j
    · simp at hj
      subst hj
      exact cell_of_row (w.alloc (.cells #[.int .u8 y] 5)) w.heap.size 0 _ _ (0, 0) (heap_alloc_new w _)
    · simp at hj
  rw [run_bytesToString _ _ 1 1 [y] h]
  rfl

theorem push_size (s : ByteArray) (b : UInt8) (k : Nat) (h : s.size = k) : (s ++ ByteArray.empty.push b).size = k + 1 := by
  rw [ByteArray.size_append, h]; rfl

def TextRel (w : World) (B g : Nat) (A : Option Addr) (len cap n : Nat) (out i : Value) (wr : World) : Prop :=
  ∃ (k p' : Nat) (s : ByteArray), k ≤ n ∧ s.size = k ∧ out = .string s ∧ i = .int .i64 (k : Int) ∧ p' ≤ 100003 + k ∧ Rd wr B g A len cap p' ∧ Below B w wr

def TextDrawn (w : World) (B g : Nat) (A : Option Addr) (len cap : Nat) (e : Ending) (w' : World) : Prop :=
  ∃ (s : ByteArray) (p' : Nat), s.size ≤ 10 ∧ e = .returned (.string s) ∧ p' ≤ 100020 ∧ Rd w' B g A len cap p' ∧ Below B w w'

set_option maxHeartbeats 1000000 in
theorem drawtext_loop {B g len cap p : Nat} {A : Option Addr} {w : World} (hR : Rd w B g A len cap p) (hp : p ≤ 100000) :
    Calls Try.prog 17 #[.pointer (some ⟨g, 0, none⟩)] w (TextDrawn w B g A len cap) := by
  have HR := Lib.hid hR
  have hB := hR.big
  have hgl := hR.lt
  clear hR
  go_enter Try.func17, Try.ntmps17
  go_wp2_with fail
  refine (pick_any 9 HR.out (by omega) (by omega) (by omega)).mono ?_
  rintro e w1 ⟨n, hn, rfl, hR1, hg1, hz1⟩
  have HR1 := Lib.hid hR1
  have HG1 := Lib.hid hg1
  clear hR1 hg1 hz1
  go_wp2_with fail
  refine (pick_any 20 HR1.out (by omega) (by omega) (by omega)).mono ?_
  rintro e w2 ⟨x, hx, rfl, hR2, hg2, hz2⟩
  have HR2 := Lib.hid hR2
  have HB2 : Hid (Below B w w2) := ((Below.refl B w).grown (World.grownBy.trans HG1.out hg2) (by omega) (fun k hk => by injection hk with hk; omega))
  clear hR2 hg2 hz2
  by_cases h0 : x = 0
  · subst h0
    go_wp2_with fail
    refine (pick_any 3 HR2.out (by omega) (by omega) (by omega)).mono ?_
    rintro e w3 ⟨z, hz, rfl, hR3, hg3, hz3⟩
    have HB3 : Hid (Below B w w3) := HB2.out.grown hg3 (by have := HR2.out.lt; omega) (fun k hk => by injection hk with hk; omega)
    clear HR2 HB2
    have HR2 := Lib.hid hR3
    have HB2 := HB3
    clear hR3 hg3 hz3 HB3
    go_wp2_with fail
    go_loopw [3, 5] (TextRel w B g A len cap (8 + z)) (fun _ i _ => (8 + z) - (intOf i).toNat)
    case atStart => exact ⟨0, _, ByteArray.empty, Nat.zero_le _, rfl, rfl, rfl, by omega, HR2.out, HB2.out⟩
    case round =>
      obtain ⟨k, p', s, hk, hs, rfl, rfl, hp', hRr, hbr⟩ := hrel
      have HRr := Lib.hid hRr
      have HBr := Lib.hid hbr
      have HS := Lib.hid hs
      have hss : s.size ≤ 10 := by omega
      clear hRr hbr hs HR2 HB2
      by_cases hlt : k < (8 + z)
      · go_wp2_with fail
        refine (pick_any 26 HRr.out (by omega) (by omega) (by omega)).mono ?_
        rintro e w3 ⟨y, hy, rfl, hR3, hg3, hz3⟩
        have HR3 := Lib.hid hR3
        have HB3 : Hid (Below B w w3) := HBr.out.grown hg3 (by have := HRr.out.lt; omega) (fun k hk => by injection hk with hk; omega)
        have hzB : B ≤ w3.heap.size := by have := hR3.lt; omega
        clear hR3 hg3 hz3
        have hcv := run_one_byte w3 (97 + (y : Int))
        have hsz : (ByteArray.empty.push (UInt8.ofNat ((97 : Int) + (y : Int)).toNat)).size = 1 := rfl
        go_wp2_with fail
        exact ⟨⟨k + 1, p' + 1, _, by omega, push_size s _ k HS.out, rfl, by go_num, by omega, HR3.out.alloc _, HB3.out.alloc hzB _⟩, by simp [intOf]; omega⟩
      · go_wp2
        go_ret
        exact ⟨s, p', hss, rfl, by omega, HRr.out, HBr.out⟩
  · have hx0 : ((x : Int) == 0) = false := by simp; omega
    go_wp2_with fail
    go_loopw [3, 5] (TextRel w B g A len cap n) (fun _ i _ => n - (intOf i).toNat)
    case atStart => exact ⟨0, _, ByteArray.empty, Nat.zero_le _, rfl, rfl, rfl, by omega, HR2.out, HB2.out⟩
    case round =>
      obtain ⟨k, p', s, hk, hs, rfl, rfl, hp', hRr, hbr⟩ := hrel
      have HRr := Lib.hid hRr
      have HBr := Lib.hid hbr
      have HS := Lib.hid hs
      have hss : s.size ≤ 10 := by omega
      clear hRr hbr hs HR2 HB2
      by_cases hlt : k < n
      · go_wp2_with fail
        refine (pick_any 26 HRr.out (by omega) (by omega) (by omega)).mono ?_
        rintro e w3 ⟨y, hy, rfl, hR3, hg3, hz3⟩
        have HR3 := Lib.hid hR3
        have HB3 : Hid (Below B w w3) := HBr.out.grown hg3 (by have := HRr.out.lt; omega) (fun k hk => by injection hk with hk; omega)
        have hzB : B ≤ w3.heap.size := by have := hR3.lt; omega
        clear hR3 hg3 hz3
        have hcv := run_one_byte w3 (97 + (y : Int))
        have hsz : (ByteArray.empty.push (UInt8.ofNat ((97 : Int) + (y : Int)).toNat)).size = 1 := rfl
        go_wp2_with fail
        exact ⟨⟨k + 1, p' + 1, _, by omega, push_size s _ k HS.out, rfl, by go_num, by omega, HR3.out.alloc _, HB3.out.alloc hzB _⟩, by simp [intOf]; omega⟩
      · go_wp2
        go_ret
        exact ⟨s, p', hss, rfl, by omega, HRr.out, HBr.out⟩

def StrDrawn (w : World) (e : Ending) (w' : World) : Prop := ∃ s : ByteArray, s.size ≤ 10 ∧ e = .returned (.string s) ∧ Below w.heap.size w w'

set_option maxHeartbeats 1000000 in
theorem drawDigestText_any (A : Option Addr) (len cap : Nat) (w : World) (hI : In w A len cap) :
    Calls Try.prog 10 #[.slice A len cap] w (StrDrawn w) := by
  have HI := Lib.hid hI
  clear hI
  go_enter Try.func10, Try.ntmps10
  go_wp2_with fail
  refine (open_any A len cap _ HI.out).mono ?_
  rintro e w1 ⟨len', cap', rfl, hR1, hb1⟩
  have HR1 := Lib.hid hR1
  have HB1 := Lib.hid hb1
  clear hR1 hb1
  go_wp2_with fail
  refine (drawtext_loop HR1.out (by omega)).mono ?_
  rintro e w2 ⟨s, p2, hs, rfl, hp2, hR2, hb2⟩
  have HB2 := Lib.hid hb2
  clear hR2 hb2
  go_wp2
  go_ret
  exact ⟨s, hs, rfl, HB1.out.trans HB2.out⟩

end Go.Proofs.Ytkoamlnkpenjeaa
