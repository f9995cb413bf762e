/- Contracts of l91Digest and DrawDigestPair: they return integers from -1 to 991, move the reader on, and change nothing that was there before. Condition: the reader's place is at most 100000; the code's bytes lie in memory. Contract of l91Text where more is drawn behind it: a text of at most 10 bytes; the reader moves on by at most 14 places; every other block lies as it lay. Condition: the reader's place is at most 100000; the code's bytes lie in memory. -/
import Derived.Test.YtnllejialnkgnaaBaseA
namespace Go.Proofs.Ytnllejialnkgnaa
open Go.RowKit

def DigDrawn (w : World) (B g : Nat) (A : Option Addr) (len cap p : Nat) (e : Ending) (w' : World) : Prop :=
  ∃ (d : Int) (p' : Nat), -1 ≤ d ∧ d ≤ 991 ∧ p' ≤ p + 3 ∧ e = .returned (.int .i64 d) ∧ Rd w' B g A len cap p' ∧ Below B w w' ∧ w.grownBy w' (some g)

theorem grown_of_alloc (w : World) (o : Obj) (row : Option Nat) : w.grownBy (w.alloc o) row := ⟨rfl, rfl, rfl, by simp, fun i hi _ => Below.heap_alloc w o i hi⟩
theorem Picked.below {w w' : World} {B g : Nat} (hg : w.grownBy w' (some g)) (hb : B ≤ g) (hl : g < w.heap.size) : Below B w w' :=
  (Below.refl B w).grown hg (by omega) (fun k hk => by injection hk with hk; omega)



end Go.Proofs.Ytnllejialnkgnaa

namespace Go.Proofs.Ytnllejialnkgnaa
open Go.RowKit
set_option linter.unusedVariables false

def TextRel (w : World) (B g : Nat) (A : Option Addr) (len cap p n : Nat) (out i : Value) (wr : World) : Prop :=
  ∃ (k p' : Nat) (s : ByteArray), k ≤ n ∧ s.size = k ∧ out = .string s ∧ i = .int .i64 (k : Int) ∧ p' ≤ p + 3 + k ∧ Rd wr B g A len cap p' ∧ w.grownBy wr (some g)

def TextDrawn (w : World) (B g : Nat) (A : Option Addr) (len cap p : Nat) (e : Ending) (w' : World) : Prop :=
  ∃ (s : ByteArray) (p' : Nat), s.size ≤ 10 ∧ p' ≤ p + 14 ∧ e = .returned (.string s) ∧ Rd w' B g A len cap p' ∧ w.grownBy w' (some g)

set_option maxHeartbeats 1000000 in
theorem drawtext_any {B g len cap p : Nat} {A : Option Addr} {w : World} (hR : Rd w B g A len cap p) (hp : p ≤ 100000) :
    Calls Try.prog 52 #[.pointer (some ⟨g, 0, none⟩)] w (TextDrawn w B g A len cap p) := by
  have HR := Lib.hid hR
  have hB := hR.big
  have hgl := hR.lt
  clear hR
  go_enter Try.func52, Try.ntmps52
  go_wp2_with fail
  refine (pick_any 9 HR.out (by omega) (by omega) (by omega)).mono ?_
  rintro e w1 ⟨n, hn, rfl, hR1, hg1, hz1⟩
  have HR1 := Lib.hid hR1
  have HG1 := Lib.hid hg1
  clear hR1 hg1 hz1
  go_wp2_with fail
  refine (pick_any 20 HR1.out (by omega) (by omega) (by omega)).mono ?_
  rintro e w2 ⟨x, hx, rfl, hR2, hg2, hz2⟩
  have HR2 := Lib.hid hR2
  have HB2 : Hid (w.grownBy w2 (some g)) := World.grownBy.trans HG1.out hg2
  clear hR2 hg2 hz2
  by_cases h0 : x = 0
  · subst h0
    go_wp2_with fail
    refine (pick_any 3 HR2.out (by omega) (by omega) (by omega)).mono ?_
    rintro e w3 ⟨z, hz, rfl, hR3, hg3, hz3⟩
    have HB3 : Hid (w.grownBy w3 (some g)) := World.grownBy.trans HB2.out hg3
    clear HR2 HB2
    have HR2 := Lib.hid hR3
    have HB2 := HB3
    clear hR3 hg3 hz3 HB3
    go_wp2_with fail
    go_loopw [3, 5] (TextRel w B g A len cap p (8 + z)) (fun _ i _ => (8 + z) - (intOf i).toNat)
    case atStart => exact ⟨0, _, ByteArray.empty, Nat.zero_le _, rfl, rfl, rfl, by omega, HR2.out, HB2.out⟩
    case round =>
      obtain ⟨k, p', s, hk, hs, rfl, rfl, hp', hRr, hbr⟩ := hrel
      have HRr := Lib.hid hRr
      have HBr := Lib.hid hbr
      have HS := Lib.hid hs
      have hss : s.size ≤ 10 := by omega
      clear hRr hbr hs HR2 HB2
      by_cases hlt : k < (8 + z)
      · go_wp2_with fail
        refine (pick_any 26 HRr.out (by omega) (by omega) (by omega)).mono ?_
        rintro e w3 ⟨y, hy, rfl, hR3, hg3, hz3⟩
        have HR3 := Lib.hid hR3
        have HB3 : Hid (w.grownBy w3 (some g)) := World.grownBy.trans HBr.out hg3
        have hzB : B ≤ w3.heap.size := by have := hR3.lt; omega
        clear hR3 hg3 hz3
        have hcv := run_one_byte w3 (97 + (y : Int))
        have hsz : (ByteArray.empty.push (UInt8.ofNat ((97 : Int) + (y : Int)).toNat)).size = 1 := rfl
        go_wp2_with fail
        exact ⟨⟨k + 1, p' + 1, _, by omega, push_size s _ k HS.out, rfl, by go_num, by omega, HR3.out.alloc _, World.grownBy.trans HB3.out (grown_of_alloc w3 _ _)⟩, by simp [intOf]; omega⟩
      · go_wp2
        go_ret
        exact ⟨s, p', hss, by omega, rfl, HRr.out, HBr.out⟩
  · have hx0 : ((x : Int) == 0) = false := by simp; omega
    go_wp2_with fail
    go_loopw [3, 5] (TextRel w B g A len cap p n) (fun _ i _ => n - (intOf i).toNat)
    case atStart => exact ⟨0, _, ByteArray.empty, Nat.zero_le _, rfl, rfl, rfl, by omega, HR2.out, HB2.out⟩
    case round =>
      obtain ⟨k, p', s, hk, hs, rfl, rfl, hp', hRr, hbr⟩ := hrel
      have HRr := Lib.hid hRr
      have HBr := Lib.hid hbr
      have HS := Lib.hid hs
      have hss : s.size ≤ 10 := by omega
      clear hRr hbr hs HR2 HB2
      by_cases hlt : k < n
      · go_wp2_with fail
        refine (pick_any 26 HRr.out (by omega) (by omega) (by omega)).mono ?_
        rintro e w3 ⟨y, hy, rfl, hR3, hg3, hz3⟩
        have HR3 := Lib.hid hR3
        have HB3 : Hid (w.grownBy w3 (some g)) := World.grownBy.trans HBr.out hg3
        have hzB : B ≤ w3.heap.size := by have := hR3.lt; omega
        clear hR3 hg3 hz3
        have hcv := run_one_byte w3 (97 + (y : Int))
        have hsz : (ByteArray.empty.push (UInt8.ofNat ((97 : Int) + (y : Int)).toNat)).size = 1 := rfl
        go_wp2_with fail
        exact ⟨⟨k + 1, p' + 1, _, by omega, push_size s _ k HS.out, rfl, by go_num, by omega, HR3.out.alloc _, World.grownBy.trans HB3.out (grown_of_alloc w3 _ _)⟩, by simp [intOf]; omega⟩
      · go_wp2
        go_ret
        exact ⟨s, p', hss, by omega, rfl, HRr.out, HBr.out⟩

end Go.Proofs.Ytnllejialnkgnaa
