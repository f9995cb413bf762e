/- The walk of FnExactHeadMake: it returns true and changes nothing that was there. Condition: the argument's cells lie in memory. -/
import Derived.Test.YtgckhdfhngbejaaExactHead
import Derived.Test.YtgckhdfhngbejaaMade
import Derived.Test.YtgckhdfhngbejaaExactInts
namespace Go.Proofs.Ytgckhdfhngbejaa
open Go.RowKit
set_option linter.unusedVariables false

theorem dec_self (l : List Int) : decide (l = l) = true := by simp

set_option maxHeartbeats 4000000 in
set_option maxRecDepth 100000 in
theorem walkExactMake (s : Int) (A : Option Addr) (cap : Nat) (zs : List Int) (w : World) (hI : IntsAt w w.heap.size A zs) (hm : zs.length ≤ maxLen) :
    Calls Try.prog 11 #[.int .i64 s, .slice A zs.length cap] w fun e w' => e = .returned (.bool true) ∧ Below w.heap.size w w' := by
  unfold maxLen at hm
  have HI := Lib.hid hI
  clear hI
  by_cases hlen : zs.length ≤ 1048576
  · have HL := Lib.hid hlen
    have HLM : Hid (zs.length ≤ maxLen) := by show _ ≤ _; unfold maxLen; omega
    obtain ⟨l, Hl⟩ : ∃ l, Hid (madeL s zs = l) := ⟨_, rfl⟩
    obtain ⟨d, Hd⟩ : ∃ d, Hid (madeD s zs = d) := ⟨_, rfl⟩
    obtain ⟨t, Ht⟩ : ∃ t, Hid (madeS s zs = t) := ⟨_, rfl⟩
    obtain ⟨R, HR⟩ : ∃ R, Hid (madeOk s zs = R) := ⟨_, rfl⟩
    have hne : (R != R) = false := by simp
    go_enter Try.func11, Try.ntmps11
    go_wp2_with fail
    refine (toInts_any A cap zs _ HI.out HL.out).mono ?_
    rintro e w1 ⟨rfl, hown1, hb1⟩
    have HO1 := Lib.hid hown1
    have HB1 := Lib.hid hb1
    clear hown1 hb1
    go_wp2_with fail
    refine (smake_any s zs w.heap.size 0 zs.length _ HO1.out.ints (Nat.le_refl _) HLM.out).mono ?_
    rintro e w2 ⟨rfl, hb2⟩
    rw [Hl.out, Hd.out, Ht.out, HR.out]
    have HB2 : Hid (Below w.heap.size w w2) := HB1.out.trans (hb2.mono HB1.out.size)
    clear hb2
    have hz2 : w.heap.size ≤ w2.heap.size := HB2.out.size
    go_wp2_with fail
    refine (toInts_any A cap zs _ (HI.out.belowS (HB2.out.alloc hz2 _)) HL.out).mono ?_
    rintro e w3 ⟨rfl, hown3, hb3⟩
    simp only [World.size_alloc] at hown3 ⊢
    have HO3 := Lib.hid hown3
    have HB3 : Hid (Below w.heap.size w w3) := (HB2.out.alloc hz2 _).trans (hb3.mono (by simp; omega))
    have HK3 : Hid (Blk w3 w2.heap.size 27 #[.int .i64 l, .int .i64 d, .int .i64 t]) := (Blk.new w2 27 #[.int .i64 l, .int .i64 d, .int .i64 t]).below hb3 (by simp)
    have hz3 : w2.heap.size < w3.heap.size := by have := hb3.size; simp at this; omega
    clear hown3 hb3
    go_wp2_with fail
    (with_reducible refine (make_any s zs (w2.heap.size + 1) 0 zs.length _ HO3.out.ints (Nat.le_refl _) HLM.out).mono ?_)
    rintro e w4 ⟨rfl, hb4⟩
    rw [Hl.out, Hd.out, Ht.out, HR.out]
    have HO34 := Lib.hid (HO3.out.below hb4)
    have HB4 : Hid (Below w.heap.size w w4) := HB3.out.trans (hb4.mono HB3.out.size)
    have hz4 : w2.heap.size < w4.heap.size := by have := hb4.size; omega
    have hblk := HK3.out.below hb4 hz3
    have c0 : w4.cell? ⟨w2.heap.size, 0, none⟩ = some (.int .i64 l) := hblk.cell 0
    have c1 : w4.cell? ⟨w2.heap.size, 1, none⟩ = some (.int .i64 d) := hblk.cell 1
    have c2 : w4.cell? ⟨w2.heap.size, 2, none⟩ = some (.int .i64 t) := hblk.cell 2
    clear hblk
    clear hb4
    go_wp2_with fail
    refine (eqHead_same l d t _).mono ?_
    rintro e w5 ⟨rfl, hb5⟩
    have HO35 := Lib.hid ((HO34.out.alloc _).below hb5)
    have HB5 : Hid (Below w.heap.size w w5) := (HB4.out.alloc (by omega) _).trans (hb5.mono (by simp; omega))
    clear hb5
    go_wp2_with fail
    refine (toInts_any A cap zs _ (HI.out.belowS HB5.out) HL.out).mono ?_
    rintro e w6 ⟨rfl, hown6, hb6⟩
    have HO6 := Lib.hid hown6
    have HO36 := Lib.hid (HO35.out.below hb6)
    have HB6 : Hid (Below w.heap.size w w6) := HB5.out.trans (hb6.mono HB5.out.size)
    clear hown6 hb6
    go_wp2_with fail
    refine (eqi_any _ zs.length zs _ zs.length zs _ HO36.out.ints HO6.out.ints HLM.out HLM.out).mono ?_
    rintro e w' ⟨rfl, q2, rfl⟩
    rw [dec_self]
    go_wp2
    go_ret
    exact ⟨rfl, below_drewN HB6.out q2⟩
  · have h9 : 1048576 < zs.length := by omega
    clear hlen
    go_enter Try.func11, Try.ntmps11
    go_wp2
    go_ret
    exact ⟨rfl, Below.refl _ _⟩

end Go.Proofs.Ytgckhdfhngbejaa
