/- Contract of FeedValid: it reports whether a feed is valid, and changes nothing that was there. Condition: the feed lies in memory. -/
import Derived.Test.YtkmebilhbjcfpaaGreatBaseH
import Derived.Test.YtkmebilhbjcfpaaGreatBaseE
import Derived.Test.YtkmebilhbjcfpaaGreatBaseB
import Derived.Deep.RegionWith
namespace Go.Proofs.YtkmebilhbjcfpaaGreat
open Go.RowKit
set_option linter.unusedVariables false

theorem ok_key {p l d s : Int} {bs : List ByteArray} {hs : List Bool} (h : ¬ (1 ≤ p ∧ p < 997)) : okB ⟨p, l, d, s, bs, hs⟩ = false := okB_no fun e => h e.1
theorem ok_head {p l d s : Int} {bs : List ByteArray} {hs : List Bool} (h : ¬ (l = 0 ∧ d = 0 ∧ s = 0)) (h2 : signedB p l d s = false) : okB ⟨p, l, d, s, bs, hs⟩ = false := okB_no fun e => by
  rcases e.2.1 with k | k
  · exact h k
  · exact absurd (h2.symm.trans k) (by decide)
theorem ok_lens {p l d s : Int} {bs : List ByteArray} {hs : List Bool} (h : ¬ ((bs.length : Int) = l ∧ (hs.length : Int) = l)) : okB ⟨p, l, d, s, bs, hs⟩ = false := okB_no fun e => h e.2.2.1
theorem ok_texts {p l d s : Int} {bs : List ByteArray} {hs : List Bool} (h : decide (TextsOk bs hs) = false) : okB ⟨p, l, d, s, bs, hs⟩ = false := okB_no fun e => by
  rw [decide_eq_false_iff_not] at h; exact h e.2.2.2.1
theorem ok_last {p l d s : Int} {bs : List ByteArray} {hs : List Bool} (hp : 1 ≤ p ∧ p < 997) (hh : HeadOk ⟨p, l, d, s, bs, hs⟩) (hl : (bs.length : Int) = l ∧ (hs.length : Int) = l) (ht : decide (TextsOk bs hs) = true) : okB ⟨p, l, d, s, bs, hs⟩ = (!wholeB hs || digestOr (leafL bs) == d) := by
  rw [decide_eq_true_iff] at ht
  cases hw : wholeB hs with
  | false => exact okB_yes ⟨hp, hh, hl, ht, fun e => absurd (hw.symm.trans e) (by decide)⟩
  | true =>
    by_cases he : digestOr (leafL bs) = d
    · rw [okB_yes ⟨hp, hh, hl, ht, fun _ => he⟩]; simp [he]
    · rw [okB_no fun e => he (e.2.2.2.2 hw)]; simp [he]

set_option maxHeartbeats 4000000 in
set_option maxRecDepth 100000 in
theorem fv_key (p l d s : Int) (A1 : Option Addr) (n1 c1 : Nat) (A2 : Option Addr) (n2 c2 : Nat) (w : World) (h : ¬ (1 ≤ p ∧ p < 997)) :
    Calls Tryz.prog 73 #[feedV p l d s A1 n1 c1 A2 n2 c2] w fun e w' => e = .returned (.bool false) ∧ Below w.heap.size w w' := by
  have H := Lib.hid h
  clear h
  go_enter Tryz.func73, Tryz.ntmps73
  go_wp2_with fail
  refine (key_no _ _ H.out).mono ?_
  rintro e w' ⟨rfl, rfl⟩
  go_wp2
  go_ret
  exact ⟨rfl, (Below.refl _ _).alloc (Nat.le_refl _) _⟩

set_option maxHeartbeats 4000000 in
set_option maxRecDepth 100000 in
theorem fv_unsignedA (p l d s : Int) (A1 : Option Addr) (n1 c1 : Nat) (A2 : Option Addr) (n2 c2 : Nat) (w : World) (h0 : 1 ≤ p) (h1 : p < 997) (hx : ¬ l = 0) (hS : signedB p l d s = false) :
    Calls Tryz.prog 73 #[feedV p l d s A1 n1 c1 A2 n2 c2] w fun e w' => e = .returned (.bool false) ∧ Below w.heap.size w w' := by
  have HS := Lib.hid hS
  clear hS
  go_enter Tryz.func73, Tryz.ntmps73
  go_wp2_with fail
  refine (key_yes _ _ h0 h1).mono ?_
  rintro e w' ⟨rfl, rfl⟩
  go_wp2_with fail
  refine (check_any p l d s _).mono ?_
  rintro e w1 ⟨rfl, hb1⟩
  rw [HS.out]
  have hz1 : w.heap.size < w1.heap.size := by have := hb1.size; simp at this; omega
  have HK1 := Lib.hid ((Blk.new w 56 (feedC p l d s A1 n1 c1 A2 n2 c2)).below hb1 (by simp))
  obtain ⟨k0, k1, k2, k3, k4, k5⟩ := feed_cells HK1.out
  have HB1 : Hid (Below w.heap.size w w1) := ((Below.refl _ w).alloc (Nat.le_refl _) _).trans (hb1.mono (by simp))
  clear hb1
  go_wp2
  go_ret
  exact ⟨rfl, HB1.out⟩

set_option maxHeartbeats 4000000 in
set_option maxRecDepth 100000 in
theorem fv_unsignedB (p d s : Int) (A1 : Option Addr) (n1 c1 : Nat) (A2 : Option Addr) (n2 c2 : Nat) (w : World) (h0 : 1 ≤ p) (h1 : p < 997) (hx : ¬ d = 0) (hS : signedB p 0 d s = false) :
    Calls Tryz.prog 73 #[feedV p 0 d s A1 n1 c1 A2 n2 c2] w fun e w' => e = .returned (.bool false) ∧ Below w.heap.size w w' := by
  have HS := Lib.hid hS
  clear hS
  go_enter Tryz.func73, Tryz.ntmps73
  go_wp2_with fail
  refine (key_yes _ _ h0 h1).mono ?_
  rintro e w' ⟨rfl, rfl⟩
  go_wp2_with fail
  refine (check_any p 0 d s _).mono ?_
  rintro e w1 ⟨rfl, hb1⟩
  rw [HS.out]
  have hz1 : w.heap.size < w1.heap.size := by have := hb1.size; simp at this; omega
  have HK1 := Lib.hid ((Blk.new w 56 (feedC p 0 d s A1 n1 c1 A2 n2 c2)).below hb1 (by simp))
  obtain ⟨k0, k1, k2, k3, k4, k5⟩ := feed_cells HK1.out
  have HB1 : Hid (Below w.heap.size w w1) := ((Below.refl _ w).alloc (Nat.le_refl _) _).trans (hb1.mono (by simp))
  clear hb1
  go_wp2
  go_ret
  exact ⟨rfl, HB1.out⟩

set_option maxHeartbeats 4000000 in
set_option maxRecDepth 100000 in
theorem fv_unsignedC (p s : Int) (A1 : Option Addr) (n1 c1 : Nat) (A2 : Option Addr) (n2 c2 : Nat) (w : World) (h0 : 1 ≤ p) (h1 : p < 997) (hx : ¬ s = 0) (hS : signedB p 0 0 s = false) :
    Calls Tryz.prog 73 #[feedV p 0 0 s A1 n1 c1 A2 n2 c2] w fun e w' => e = .returned (.bool false) ∧ Below w.heap.size w w' := by
  have HS := Lib.hid hS
  clear hS
  go_enter Tryz.func73, Tryz.ntmps73
  go_wp2_with fail
  refine (key_yes _ _ h0 h1).mono ?_
  rintro e w' ⟨rfl, rfl⟩
  go_wp2_with fail
  refine (check_any p 0 0 s _).mono ?_
  rintro e w1 ⟨rfl, hb1⟩
  rw [HS.out]
  have hz1 : w.heap.size < w1.heap.size := by have := hb1.size; simp at this; omega
  have HK1 := Lib.hid ((Blk.new w 56 (feedC p 0 0 s A1 n1 c1 A2 n2 c2)).below hb1 (by simp))
  obtain ⟨k0, k1, k2, k3, k4, k5⟩ := feed_cells HK1.out
  have HB1 : Hid (Below w.heap.size w w1) := ((Below.refl _ w).alloc (Nat.le_refl _) _).trans (hb1.mono (by simp))
  clear hb1
  go_wp2
  go_ret
  exact ⟨rfl, HB1.out⟩

set_option maxHeartbeats 4000000 in
set_option maxRecDepth 100000 in
theorem fv_lensA1 (p l d s : Int) (A1 : Option Addr) (n1 c1 : Nat) (A2 : Option Addr) (n2 c2 : Nat) (w : World) (hb1 : n1 ≤ maxLen) (hb2 : n2 ≤ maxLen) (h0 : 1 ≤ p) (h1 : p < 997) (hx : ¬ l = 0) (hS : signedB p l d s = true) (hn : ¬ (n1 : Int) = l) :
    Calls Tryz.prog 73 #[feedV p l d s A1 n1 c1 A2 n2 c2] w fun e w' => e = .returned (.bool false) ∧ Below w.heap.size w w' := by
  unfold maxLen at hb1 hb2
  have HS := Lib.hid hS
  clear hS
  go_enter Tryz.func73, Tryz.ntmps73
  go_wp2_with fail
  refine (key_yes _ _ h0 h1).mono ?_
  rintro e w' ⟨rfl, rfl⟩
  go_wp2_with fail
  refine (check_any p l d s _).mono ?_
  rintro e w1 ⟨rfl, hb1⟩
  rw [HS.out]
  have hz1 : w.heap.size < w1.heap.size := by have := hb1.size; simp at this; omega
  have HK1 := Lib.hid ((Blk.new w 56 (feedC p l d s A1 n1 c1 A2 n2 c2)).below hb1 (by simp))
  obtain ⟨k0, k1, k2, k3, k4, k5⟩ := feed_cells HK1.out
  have HB1 : Hid (Below w.heap.size w w1) := ((Below.refl _ w).alloc (Nat.le_refl _) _).trans (hb1.mono (by simp))
  clear hb1
  go_wp2
  go_ret
  exact ⟨rfl, HB1.out⟩

set_option maxHeartbeats 4000000 in
set_option maxRecDepth 100000 in
theorem fv_lensA2 (p d s : Int) (A1 : Option Addr) (n1 c1 : Nat) (A2 : Option Addr) (n2 c2 : Nat) (w : World) (hb1 : n1 ≤ maxLen) (hb2 : n2 ≤ maxLen) (h0 : 1 ≤ p) (h1 : p < 997) (hx : ¬ n1 = 0) (hS : signedB p (n1 : Int) d s = true) (hn : ¬ n2 = n1) :
    Calls Tryz.prog 73 #[feedV p (n1 : Int) d s A1 n1 c1 A2 n2 c2] w fun e w' => e = .returned (.bool false) ∧ Below w.heap.size w w' := by
  unfold maxLen at hb1 hb2
  have HS := Lib.hid hS
  clear hS
  go_enter Tryz.func73, Tryz.ntmps73
  go_wp2_with fail
  refine (key_yes _ _ h0 h1).mono ?_
  rintro e w' ⟨rfl, rfl⟩
  go_wp2_with fail
  refine (check_any p (n1 : Int) d s _).mono ?_
  rintro e w1 ⟨rfl, hb1⟩
  rw [HS.out]
  have hz1 : w.heap.size < w1.heap.size := by have := hb1.size; simp at this; omega
  have HK1 := Lib.hid ((Blk.new w 56 (feedC p (n1 : Int) d s A1 n1 c1 A2 n2 c2)).below hb1 (by simp))
  obtain ⟨k0, k1, k2, k3, k4, k5⟩ := feed_cells HK1.out
  have HB1 : Hid (Below w.heap.size w w1) := ((Below.refl _ w).alloc (Nat.le_refl _) _).trans (hb1.mono (by simp))
  clear hb1
  go_wp2
  go_ret
  exact ⟨rfl, HB1.out⟩

set_option maxHeartbeats 4000000 in
set_option maxRecDepth 100000 in
theorem fv_lensB1 (p d s : Int) (A1 : Option Addr) (n1 c1 : Nat) (A2 : Option Addr) (n2 c2 : Nat) (w : World) (hb1 : n1 ≤ maxLen) (hb2 : n2 ≤ maxLen) (h0 : 1 ≤ p) (h1 : p < 997) (hx : ¬ d = 0) (hS : signedB p 0 d s = true) (hn : ¬ n1 = 0) :
    Calls Tryz.prog 73 #[feedV p 0 d s A1 n1 c1 A2 n2 c2] w fun e w' => e = .returned (.bool false) ∧ Below w.heap.size w w' := by
  unfold maxLen at hb1 hb2
  have HS := Lib.hid hS
  clear hS
  go_enter Tryz.func73, Tryz.ntmps73
  go_wp2_with fail
  refine (key_yes _ _ h0 h1).mono ?_
  rintro e w' ⟨rfl, rfl⟩
  go_wp2_with fail
  refine (check_any p 0 d s _).mono ?_
  rintro e w1 ⟨rfl, hb1⟩
  rw [HS.out]
  have hz1 : w.heap.size < w1.heap.size := by have := hb1.size; simp at this; omega
  have HK1 := Lib.hid ((Blk.new w 56 (feedC p 0 d s A1 n1 c1 A2 n2 c2)).below hb1 (by simp))
  obtain ⟨k0, k1, k2, k3, k4, k5⟩ := feed_cells HK1.out
  have HB1 : Hid (Below w.heap.size w w1) := ((Below.refl _ w).alloc (Nat.le_refl _) _).trans (hb1.mono (by simp))
  clear hb1
  go_wp2
  go_ret
  exact ⟨rfl, HB1.out⟩

set_option maxHeartbeats 4000000 in
set_option maxRecDepth 100000 in
theorem fv_lensB2 (p d s : Int) (A1 : Option Addr) (c1 : Nat) (A2 : Option Addr) (n2 c2 : Nat) (w : World) (hb1 : 0 ≤ maxLen) (hb2 : n2 ≤ maxLen) (h0 : 1 ≤ p) (h1 : p < 997) (hx : ¬ d = 0) (hS : signedB p 0 d s = true) (hn : ¬ n2 = 0) :
    Calls Tryz.prog 73 #[feedV p 0 d s A1 0 c1 A2 n2 c2] w fun e w' => e = .returned (.bool false) ∧ Below w.heap.size w w' := by
  unfold maxLen at hb1 hb2
  have HS := Lib.hid hS
  clear hS
  go_enter Tryz.func73, Tryz.ntmps73
  go_wp2_with fail
  refine (key_yes _ _ h0 h1).mono ?_
  rintro e w' ⟨rfl, rfl⟩
  go_wp2_with fail
  refine (check_any p 0 d s _).mono ?_
  rintro e w1 ⟨rfl, hb1⟩
  rw [HS.out]
  have hz1 : w.heap.size < w1.heap.size := by have := hb1.size; simp at this; omega
  have HK1 := Lib.hid ((Blk.new w 56 (feedC p 0 d s A1 0 c1 A2 n2 c2)).below hb1 (by simp))
  obtain ⟨k0, k1, k2, k3, k4, k5⟩ := feed_cells HK1.out
  have HB1 : Hid (Below w.heap.size w w1) := ((Below.refl _ w).alloc (Nat.le_refl _) _).trans (hb1.mono (by simp))
  clear hb1
  go_wp2
  go_ret
  exact ⟨rfl, HB1.out⟩

set_option maxHeartbeats 4000000 in
set_option maxRecDepth 100000 in
theorem fv_lensC1 (p s : Int) (A1 : Option Addr) (n1 c1 : Nat) (A2 : Option Addr) (n2 c2 : Nat) (w : World) (hb1 : n1 ≤ maxLen) (hb2 : n2 ≤ maxLen) (h0 : 1 ≤ p) (h1 : p < 997) (hx : ¬ s = 0) (hS : signedB p 0 0 s = true) (hn : ¬ n1 = 0) :
    Calls Tryz.prog 73 #[feedV p 0 0 s A1 n1 c1 A2 n2 c2] w fun e w' => e = .returned (.bool false) ∧ Below w.heap.size w w' := by
  unfold maxLen at hb1 hb2
  have HS := Lib.hid hS
  clear hS
  go_enter Tryz.func73, Tryz.ntmps73
  go_wp2_with fail
  refine (key_yes _ _ h0 h1).mono ?_
  rintro e w' ⟨rfl, rfl⟩
  go_wp2_with fail
  refine (check_any p 0 0 s _).mono ?_
  rintro e w1 ⟨rfl, hb1⟩
  rw [HS.out]
  have hz1 : w.heap.size < w1.heap.size := by have := hb1.size; simp at this; omega
  have HK1 := Lib.hid ((Blk.new w 56 (feedC p 0 0 s A1 n1 c1 A2 n2 c2)).below hb1 (by simp))
  obtain ⟨k0, k1, k2, k3, k4, k5⟩ := feed_cells HK1.out
  have HB1 : Hid (Below w.heap.size w w1) := ((Below.refl _ w).alloc (Nat.le_refl _) _).trans (hb1.mono (by simp))
  clear hb1
  go_wp2
  go_ret
  exact ⟨rfl, HB1.out⟩

set_option maxHeartbeats 4000000 in
set_option maxRecDepth 100000 in
theorem fv_lensC2 (p s : Int) (A1 : Option Addr) (c1 : Nat) (A2 : Option Addr) (n2 c2 : Nat) (w : World) (hb1 : 0 ≤ maxLen) (hb2 : n2 ≤ maxLen) (h0 : 1 ≤ p) (h1 : p < 997) (hx : ¬ s = 0) (hS : signedB p 0 0 s = true) (hn : ¬ n2 = 0) :
    Calls Tryz.prog 73 #[feedV p 0 0 s A1 0 c1 A2 n2 c2] w fun e w' => e = .returned (.bool false) ∧ Below w.heap.size w w' := by
  unfold maxLen at hb1 hb2
  have HS := Lib.hid hS
  clear hS
  go_enter Tryz.func73, Tryz.ntmps73
  go_wp2_with fail
  refine (key_yes _ _ h0 h1).mono ?_
  rintro e w' ⟨rfl, rfl⟩
  go_wp2_with fail
  refine (check_any p 0 0 s _).mono ?_
  rintro e w1 ⟨rfl, hb1⟩
  rw [HS.out]
  have hz1 : w.heap.size < w1.heap.size := by have := hb1.size; simp at this; omega
  have HK1 := Lib.hid ((Blk.new w 56 (feedC p 0 0 s A1 0 c1 A2 n2 c2)).below hb1 (by simp))
  obtain ⟨k0, k1, k2, k3, k4, k5⟩ := feed_cells HK1.out
  have HB1 : Hid (Below w.heap.size w w1) := ((Below.refl _ w).alloc (Nat.le_refl _) _).trans (hb1.mono (by simp))
  clear hb1
  go_wp2
  go_ret
  exact ⟨rfl, HB1.out⟩

set_option maxHeartbeats 4000000 in
set_option maxRecDepth 100000 in
theorem fv_lensZ1 (p : Int) (A1 : Option Addr) (n1 c1 : Nat) (A2 : Option Addr) (n2 c2 : Nat) (w : World) (hb1 : n1 ≤ maxLen) (hb2 : n2 ≤ maxLen) (h0 : 1 ≤ p) (h1 : p < 997)   (hn : ¬ n1 = 0) :
    Calls Tryz.prog 73 #[feedV p 0 0 0 A1 n1 c1 A2 n2 c2] w fun e w' => e = .returned (.bool false) ∧ Below w.heap.size w w' := by
  unfold maxLen at hb1 hb2
  go_enter Tryz.func73, Tryz.ntmps73
  go_wp2_with fail
  refine (key_yes _ _ h0 h1).mono ?_
  rintro e w' ⟨rfl, rfl⟩
  go_wp2
  go_ret
  exact ⟨rfl, (Below.refl _ _).alloc (Nat.le_refl _) _⟩

set_option maxHeartbeats 4000000 in
set_option maxRecDepth 100000 in
theorem fv_lensZ2 (p : Int) (A1 : Option Addr) (c1 : Nat) (A2 : Option Addr) (n2 c2 : Nat) (w : World) (hb1 : 0 ≤ maxLen) (hb2 : n2 ≤ maxLen) (h0 : 1 ≤ p) (h1 : p < 997)   (hn : ¬ n2 = 0) :
    Calls Tryz.prog 73 #[feedV p 0 0 0 A1 0 c1 A2 n2 c2] w fun e w' => e = .returned (.bool false) ∧ Below w.heap.size w w' := by
  unfold maxLen at hb1 hb2
  go_enter Tryz.func73, Tryz.ntmps73
  go_wp2_with fail
  refine (key_yes _ _ h0 h1).mono ?_
  rintro e w' ⟨rfl, rfl⟩
  go_wp2
  go_ret
  exact ⟨rfl, (Below.refl _ _).alloc (Nat.le_refl _) _⟩

set_option maxHeartbeats 4000000 in
set_option maxRecDepth 100000 in
theorem fv_noneB (p d s : Int) (A1 : Option Addr) (c1 : Nat) (A2 : Option Addr) (c2 : Nat) (w : World) (h0 : 1 ≤ p) (h1 : p < 997) (hx : ¬ d = 0) (hS : signedB p 0 d s = true) :
    Calls Tryz.prog 73 #[feedV p 0 d s A1 0 c1 A2 0 c2] w fun e w' => e = .returned (.bool true) ∧ Below w.heap.size w w' := by
  have HS := Lib.hid hS
  clear hS
  have C1 : Hid (∀ W : World, Calls Tryz.prog 118 #[.slice A1 0 c1, .slice A2 0 c2] W fun e w' => e = .returned (.bool true) ∧ W = w') := fun W =>
    textsValid_any A1 c1 A2 c2 [] [] W ⟨StrsAt.nil, BoolsAt.nil, fun k => Nat.zero_le _, Nat.zero_le _, Nat.zero_le _⟩ rfl
  have C2 : Hid (∀ (W : World), Calls Tryz.prog 119 #[feedV p 0 d s A1 0 c1 A2 0 c2] W fun e w' => e = .returned (.bool false) ∧ Below W.heap.size W w') := fun W =>
    isWhole_any p 0 d s A1 0 c1 A2 c2 [] W BoolsAt.nil (Nat.zero_le _)
  go_enter Tryz.func73, Tryz.ntmps73
  go_wp2_with fail
  refine (key_yes _ _ h0 h1).mono ?_
  rintro e w' ⟨rfl, rfl⟩
  go_wp2_with fail
  refine (check_any p 0 d s _).mono ?_
  rintro e w1 ⟨rfl, hb1⟩
  rw [HS.out]
  have hz1 : w.heap.size < w1.heap.size := by have := hb1.size; simp at this; omega
  have HK1 := Lib.hid ((Blk.new w 56 (feedC p 0 d s A1 0 c1 A2 0 c2)).below hb1 (by simp))
  obtain ⟨k0, k1, k2, k3, k4, k5⟩ := feed_cells HK1.out
  have HB1 : Hid (Below w.heap.size w w1) := ((Below.refl _ w).alloc (Nat.le_refl _) _).trans (hb1.mono (by simp))
  clear hb1
  go_wp2_with fail
  refine (C1.out _).mono ?_
  rintro e w' ⟨rfl, rfl⟩
  go_wp2_with fail
  refine wp_region_any (by kernel_rfl) ?_
  change wpAny _ _ _ _ _ _ _ (World.drew _)
  refine wpAny_ready (rs := [0]) (by kernel_rfl) (by simp) (AllReady.cons rfl (fun K hK => ?_) AllReady.nil)
  go_simp
  refine hK _ _ ?_
  clear hK K
  refine wpAny_ready (rs := [1]) (by kernel_rfl) (by simp) (AllReady.cons rfl (fun K hK => ?_) AllReady.nil)
  go_simp
  go_at_call 119
  refine (C2.out _).mono ?_
  rintro e w2 ⟨rfl, hb2⟩
  have HB2 : Hid (Below w1.heap.size w1 w2) := below_drew_l hb2
  clear hb2
  refine hK _ _ ?_
  clear hK K
  refine wpAny_take (i := 2) (v := .bool true) rfl (by kernel_rfl) (by kernel_rfl) (by kernel_rfl) (fun _ _ _ h => h) (Or.inl ⟨by kernel_rfl, fun w => by go_simp⟩) ?_
  change wpAny _ _ _ _ _ _ (Act.put _ (some 47) _) _
  simp only [Act.put, Array.setIfInBounds, List.size_toArray, List.length_cons, List.length_nil, Nat.reduceAdd, Nat.reduceLT, dite_true, List.set_toArray, List.set_cons_zero, List.set_cons_succ]
  refine wpAny_take (i := 3) (v := .bool true) rfl (by kernel_rfl) (by kernel_rfl) (by kernel_rfl) (fun _ _ _ h => h) (Or.inl ⟨by kernel_rfl, fun w => by go_simp⟩) ?_
  change wpAny _ _ _ _ _ _ (Act.put _ (some 48) _) _
  simp only [Act.put, Array.setIfInBounds, List.size_toArray, List.length_cons, List.length_nil, Nat.reduceAdd, Nat.reduceLT, dite_true, List.set_toArray, List.set_cons_zero, List.set_cons_succ]
  refine wpAny_take (i := 4) (v := undef) rfl (by kernel_rfl) (by kernel_rfl) (by kernel_rfl) (fun _ _ _ h => h) (Or.inr ⟨by kernel_rfl, rfl⟩) ?_
  change wpAny _ _ _ _ _ _ (Act.put _ (some 49) _) _
  simp only [Act.put, Array.setIfInBounds, List.size_toArray, List.length_cons, List.length_nil, Nat.reduceAdd, Nat.reduceLT, dite_true, List.set_toArray, List.set_cons_zero, List.set_cons_succ]
  refine wpAny_take (i := 5) (v := undef) rfl (by kernel_rfl) (by kernel_rfl) (by kernel_rfl) (fun _ _ _ h => h) (Or.inr ⟨by kernel_rfl, rfl⟩) ?_
  change wpAny _ _ _ _ _ _ (Act.put _ (some 50) _) _
  simp only [Act.put, Array.setIfInBounds, List.size_toArray, List.length_cons, List.length_nil, Nat.reduceAdd, Nat.reduceLT, dite_true, List.set_toArray, List.set_cons_zero, List.set_cons_succ]
  refine wpAny_take (i := 6) (v := undef) rfl (by kernel_rfl) (by kernel_rfl) (by kernel_rfl) (fun _ _ _ h => h) (Or.inr ⟨by kernel_rfl, rfl⟩) ?_
  change wpAny _ _ _ _ _ _ (Act.put _ (some 51) _) _
  simp only [Act.put, Array.setIfInBounds, List.size_toArray, List.length_cons, List.length_nil, Nat.reduceAdd, Nat.reduceLT, dite_true, List.set_toArray, List.set_cons_zero, List.set_cons_succ]
  refine wpAny_take (i := 7) (v := undef) rfl (by kernel_rfl) (by kernel_rfl) (by kernel_rfl) (fun _ _ _ h => h) (Or.inr ⟨by kernel_rfl, rfl⟩) ?_
  change wpAny _ _ _ _ _ _ (Act.put _ (some 52) _) _
  simp only [Act.put, Array.setIfInBounds, List.size_toArray, List.length_cons, List.length_nil, Nat.reduceAdd, Nat.reduceLT, dite_true, List.set_toArray, List.set_cons_zero, List.set_cons_succ]
  refine wpAny_take (i := 8) (v := undef) rfl (by kernel_rfl) (by kernel_rfl) (by kernel_rfl) (fun _ _ _ h => h) (Or.inr ⟨by kernel_rfl, rfl⟩) ?_
  change wpAny _ _ _ _ _ _ (Act.put _ (some 53) _) _
  simp only [Act.put, Array.setIfInBounds, List.size_toArray, List.length_cons, List.length_nil, Nat.reduceAdd, Nat.reduceLT, dite_true, List.set_toArray, List.set_cons_zero, List.set_cons_succ]
  refine wpAny_take (i := 9) (v := undef) rfl (by kernel_rfl) (by kernel_rfl) (by kernel_rfl) (fun _ _ _ h => h) (Or.inr ⟨by kernel_rfl, rfl⟩) ?_
  change wpAny _ _ _ _ _ _ (Act.put _ (some 54) _) _
  simp only [Act.put, Array.setIfInBounds, List.size_toArray, List.length_cons, List.length_nil, Nat.reduceAdd, Nat.reduceLT, dite_true, List.set_toArray, List.set_cons_zero, List.set_cons_succ]
  refine wpAny_take (i := 10) (v := undef) rfl (by kernel_rfl) (by kernel_rfl) (by kernel_rfl) (fun _ _ _ h => h) (Or.inr ⟨by kernel_rfl, rfl⟩) ?_
  change wpAny _ _ _ _ _ _ (Act.put _ (some 55) _) _
  simp only [Act.put, Array.setIfInBounds, List.size_toArray, List.length_cons, List.length_nil, Nat.reduceAdd, Nat.reduceLT, dite_true, List.set_toArray, List.set_cons_zero, List.set_cons_succ]
  refine wpAny_take (i := 11) (v := undef) rfl (by kernel_rfl) (by kernel_rfl) (by kernel_rfl) (fun _ _ _ h => h) (Or.inr ⟨by kernel_rfl, rfl⟩) ?_
  change wpAny _ _ _ _ _ _ (Act.put _ (some 56) _) _
  simp only [Act.put, Array.setIfInBounds, List.size_toArray, List.length_cons, List.length_nil, Nat.reduceAdd, Nat.reduceLT, dite_true, List.set_toArray, List.set_cons_zero, List.set_cons_succ]
  refine wpAny_take (i := 12) (v := .bool true) rfl (by kernel_rfl) (by kernel_rfl) (by kernel_rfl) (fun _ _ _ h => h) (Or.inl ⟨by kernel_rfl, fun w => by go_simp⟩) ?_
  change wpAny _ _ _ _ _ _ (Act.put _ (some 57) _) _
  simp only [Act.put, Array.setIfInBounds, List.size_toArray, List.length_cons, List.length_nil, Nat.reduceAdd, Nat.reduceLT, dite_true, List.set_toArray, List.set_cons_zero, List.set_cons_succ]
  refine wpAny_take (i := 13) (v := .bool true) rfl (by kernel_rfl) (by kernel_rfl) (by kernel_rfl) (fun _ _ _ h => h) (Or.inl ⟨by kernel_rfl, fun w => by go_simp⟩) ?_
  change wpAny _ _ _ _ _ _ (Act.put _ (some 2) _) _
  simp only [Act.put, Array.setIfInBounds, List.size_toArray, List.length_cons, List.length_nil, Nat.reduceAdd, Nat.reduceLT, dite_true, List.set_toArray, List.set_cons_zero, List.set_cons_succ]
  refine wpAny_done (by kernel_rfl) ?_ _
  go_wp2
  go_ret
  exact ⟨rfl, HB1.out.trans (HB2.out.mono HB1.out.size)⟩

set_option maxHeartbeats 4000000 in
set_option maxRecDepth 100000 in
theorem fv_noneC (p s : Int) (A1 : Option Addr) (c1 : Nat) (A2 : Option Addr) (c2 : Nat) (w : World) (h0 : 1 ≤ p) (h1 : p < 997) (hx : ¬ s = 0) (hS : signedB p 0 0 s = true) :
    Calls Tryz.prog 73 #[feedV p 0 0 s A1 0 c1 A2 0 c2] w fun e w' => e = .returned (.bool true) ∧ Below w.heap.size w w' := by
  have HS := Lib.hid hS
  clear hS
  have C1 : Hid (∀ W : World, Calls Tryz.prog 118 #[.slice A1 0 c1, .slice A2 0 c2] W fun e w' => e = .returned (.bool true) ∧ W = w') := fun W =>
    textsValid_any A1 c1 A2 c2 [] [] W ⟨StrsAt.nil, BoolsAt.nil, fun k => Nat.zero_le _, Nat.zero_le _, Nat.zero_le _⟩ rfl
  have C2 : Hid (∀ (W : World), Calls Tryz.prog 119 #[feedV p 0 0 s A1 0 c1 A2 0 c2] W fun e w' => e = .returned (.bool false) ∧ Below W.heap.size W w') := fun W =>
    isWhole_any p 0 0 s A1 0 c1 A2 c2 [] W BoolsAt.nil (Nat.zero_le _)
  go_enter Tryz.func73, Tryz.ntmps73
  go_wp2_with fail
  refine (key_yes _ _ h0 h1).mono ?_
  rintro e w' ⟨rfl, rfl⟩
  go_wp2_with fail
  refine (check_any p 0 0 s _).mono ?_
  rintro e w1 ⟨rfl, hb1⟩
  rw [HS.out]
  have hz1 : w.heap.size < w1.heap.size := by have := hb1.size; simp at this; omega
  have HK1 := Lib.hid ((Blk.new w 56 (feedC p 0 0 s A1 0 c1 A2 0 c2)).below hb1 (by simp))
  obtain ⟨k0, k1, k2, k3, k4, k5⟩ := feed_cells HK1.out
  have HB1 : Hid (Below w.heap.size w w1) := ((Below.refl _ w).alloc (Nat.le_refl _) _).trans (hb1.mono (by simp))
  clear hb1
  go_wp2_with fail
  refine (C1.out _).mono ?_
  rintro e w' ⟨rfl, rfl⟩
  go_wp2_with fail
  refine wp_region_any (by kernel_rfl) ?_
  change wpAny _ _ _ _ _ _ _ (World.drew _)
  refine wpAny_ready (rs := [0]) (by kernel_rfl) (by simp) (AllReady.cons rfl (fun K hK => ?_) AllReady.nil)
  go_simp
  refine hK _ _ ?_
  clear hK K
  refine wpAny_ready (rs := [1]) (by kernel_rfl) (by simp) (AllReady.cons rfl (fun K hK => ?_) AllReady.nil)
  go_simp
  go_at_call 119
  refine (C2.out _).mono ?_
  rintro e w2 ⟨rfl, hb2⟩
  have HB2 : Hid (Below w1.heap.size w1 w2) := below_drew_l hb2
  clear hb2
  refine hK _ _ ?_
  clear hK K
  refine wpAny_take (i := 2) (v := .bool true) rfl (by kernel_rfl) (by kernel_rfl) (by kernel_rfl) (fun _ _ _ h => h) (Or.inl ⟨by kernel_rfl, fun w => by go_simp⟩) ?_
  change wpAny _ _ _ _ _ _ (Act.put _ (some 47) _) _
  simp only [Act.put, Array.setIfInBounds, List.size_toArray, List.length_cons, List.length_nil, Nat.reduceAdd, Nat.reduceLT, dite_true, List.set_toArray, List.set_cons_zero, List.set_cons_succ]
  refine wpAny_take (i := 3) (v := .bool true) rfl (by kernel_rfl) (by kernel_rfl) (by kernel_rfl) (fun _ _ _ h => h) (Or.inl ⟨by kernel_rfl, fun w => by go_simp⟩) ?_
  change wpAny _ _ _ _ _ _ (Act.put _ (some 48) _) _
  simp only [Act.put, Array.setIfInBounds, List.size_toArray, List.length_cons, List.length_nil, Nat.reduceAdd, Nat.reduceLT, dite_true, List.set_toArray, List.set_cons_zero, List.set_cons_succ]
  refine wpAny_take (i := 4) (v := undef) rfl (by kernel_rfl) (by kernel_rfl) (by kernel_rfl) (fun _ _ _ h => h) (Or.inr ⟨by kernel_rfl, rfl⟩) ?_
  change wpAny _ _ _ _ _ _ (Act.put _ (some 49) _) _
  simp only [Act.put, Array.setIfInBounds, List.size_toArray, List.length_cons, List.length_nil, Nat.reduceAdd, Nat.reduceLT, dite_true, List.set_toArray, List.set_cons_zero, List.set_cons_succ]
  refine wpAny_take (i := 5) (v := undef) rfl (by kernel_rfl) (by kernel_rfl) (by kernel_rfl) (fun _ _ _ h => h) (Or.inr ⟨by kernel_rfl, rfl⟩) ?_
  change wpAny _ _ _ _ _ _ (Act.put _ (some 50) _) _
  simp only [Act.put, Array.setIfInBounds, List.size_toArray, List.length_cons, List.length_nil, Nat.reduceAdd, Nat.reduceLT, dite_true, List.set_toArray, List.set_cons_zero, List.set_cons_succ]
  refine wpAny_take (i := 6) (v := undef) rfl (by kernel_rfl) (by kernel_rfl) (by kernel_rfl) (fun _ _ _ h => h) (Or.inr ⟨by kernel_rfl, rfl⟩) ?_
  change wpAny _ _ _ _ _ _ (Act.put _ (some 51) _) _
  simp only [Act.put, Array.setIfInBounds, List.size_toArray, List.length_cons, List.length_nil, Nat.reduceAdd, Nat.reduceLT, dite_true, List.set_toArray, List.set_cons_zero, List.set_cons_succ]
  refine wpAny_take (i := 7) (v := undef) rfl (by kernel_rfl) (by kernel_rfl) (by kernel_rfl) (fun _ _ _ h => h) (Or.inr ⟨by kernel_rfl, rfl⟩) ?_
  change wpAny _ _ _ _ _ _ (Act.put _ (some 52) _) _
  simp only [Act.put, Array.setIfInBounds, List.size_toArray, List.length_cons, List.length_nil, Nat.reduceAdd, Nat.reduceLT, dite_true, List.set_toArray, List.set_cons_zero, List.set_cons_succ]
  refine wpAny_take (i := 8) (v := undef) rfl (by kernel_rfl) (by kernel_rfl) (by kernel_rfl) (fun _ _ _ h => h) (Or.inr ⟨by kernel_rfl, rfl⟩) ?_
  change wpAny _ _ _ _ _ _ (Act.put _ (some 53) _) _
  simp only [Act.put, Array.setIfInBounds, List.size_toArray, List.length_cons, List.length_nil, Nat.reduceAdd, Nat.reduceLT, dite_true, List.set_toArray, List.set_cons_zero, List.set_cons_succ]
  refine wpAny_take (i := 9) (v := undef) rfl (by kernel_rfl) (by kernel_rfl) (by kernel_rfl) (fun _ _ _ h => h) (Or.inr ⟨by kernel_rfl, rfl⟩) ?_
  change wpAny _ _ _ _ _ _ (Act.put _ (some 54) _) _
  simp only [Act.put, Array.setIfInBounds, List.size_toArray, List.length_cons, List.length_nil, Nat.reduceAdd, Nat.reduceLT, dite_true, List.set_toArray, List.set_cons_zero, List.set_cons_succ]
  refine wpAny_take (i := 10) (v := undef) rfl (by kernel_rfl) (by kernel_rfl) (by kernel_rfl) (fun _ _ _ h => h) (Or.inr ⟨by kernel_rfl, rfl⟩) ?_
  change wpAny _ _ _ _ _ _ (Act.put _ (some 55) _) _
  simp only [Act.put, Array.setIfInBounds, List.size_toArray, List.length_cons, List.length_nil, Nat.reduceAdd, Nat.reduceLT, dite_true, List.set_toArray, List.set_cons_zero, List.set_cons_succ]
  refine wpAny_take (i := 11) (v := undef) rfl (by kernel_rfl) (by kernel_rfl) (by kernel_rfl) (fun _ _ _ h => h) (Or.inr ⟨by kernel_rfl, rfl⟩) ?_
  change wpAny _ _ _ _ _ _ (Act.put _ (some 56) _) _
  simp only [Act.put, Array.setIfInBounds, List.size_toArray, List.length_cons, List.length_nil, Nat.reduceAdd, Nat.reduceLT, dite_true, List.set_toArray, List.set_cons_zero, List.set_cons_succ]
  refine wpAny_take (i := 12) (v := .bool true) rfl (by kernel_rfl) (by kernel_rfl) (by kernel_rfl) (fun _ _ _ h => h) (Or.inl ⟨by kernel_rfl, fun w => by go_simp⟩) ?_
  change wpAny _ _ _ _ _ _ (Act.put _ (some 57) _) _
  simp only [Act.put, Array.setIfInBounds, List.size_toArray, List.length_cons, List.length_nil, Nat.reduceAdd, Nat.reduceLT, dite_true, List.set_toArray, List.set_cons_zero, List.set_cons_succ]
  refine wpAny_take (i := 13) (v := .bool true) rfl (by kernel_rfl) (by kernel_rfl) (by kernel_rfl) (fun _ _ _ h => h) (Or.inl ⟨by kernel_rfl, fun w => by go_simp⟩) ?_
  change wpAny _ _ _ _ _ _ (Act.put _ (some 2) _) _
  simp only [Act.put, Array.setIfInBounds, List.size_toArray, List.length_cons, List.length_nil, Nat.reduceAdd, Nat.reduceLT, dite_true, List.set_toArray, List.set_cons_zero, List.set_cons_succ]
  refine wpAny_done (by kernel_rfl) ?_ _
  go_wp2
  go_ret
  exact ⟨rfl, HB1.out.trans (HB2.out.mono HB1.out.size)⟩

set_option maxHeartbeats 4000000 in
set_option maxRecDepth 100000 in
theorem fv_noneZ (p : Int) (A1 : Option Addr) (c1 : Nat) (A2 : Option Addr) (c2 : Nat) (w : World) (h0 : 1 ≤ p) (h1 : p < 997)   :
    Calls Tryz.prog 73 #[feedV p 0 0 0 A1 0 c1 A2 0 c2] w fun e w' => e = .returned (.bool true) ∧ Below w.heap.size w w' := by
  have C1 : Hid (∀ W : World, Calls Tryz.prog 118 #[.slice A1 0 c1, .slice A2 0 c2] W fun e w' => e = .returned (.bool true) ∧ W = w') := fun W =>
    textsValid_any A1 c1 A2 c2 [] [] W ⟨StrsAt.nil, BoolsAt.nil, fun k => Nat.zero_le _, Nat.zero_le _, Nat.zero_le _⟩ rfl
  have C2 : Hid (∀ (W : World), Calls Tryz.prog 119 #[feedV p 0 0 0 A1 0 c1 A2 0 c2] W fun e w' => e = .returned (.bool false) ∧ Below W.heap.size W w') := fun W =>
    isWhole_any p 0 0 0 A1 0 c1 A2 c2 [] W BoolsAt.nil (Nat.zero_le _)
  go_enter Tryz.func73, Tryz.ntmps73
  go_wp2_with fail
  refine (key_yes _ _ h0 h1).mono ?_
  rintro e w' ⟨rfl, rfl⟩
  go_wp2_with fail
  refine (C1.out _).mono ?_
  rintro e w' ⟨rfl, rfl⟩
  have HK1 := Lib.hid (Blk.new w 56 (feedC p 0 0 0 A1 0 c1 A2 0 c2))
  have HB1 : Hid (Below w.heap.size w (w.alloc (.cells (feedC p 0 0 0 A1 0 c1 A2 0 c2) 56))) := (Below.refl _ w).alloc (Nat.le_refl _) _
  have hz1 : w.heap.size < (w.alloc (.cells (feedC p 0 0 0 A1 0 c1 A2 0 c2) 56)).heap.size := by simp
  obtain ⟨w1, HW1⟩ : ∃ w1, Hid (w.alloc (.cells (feedC p 0 0 0 A1 0 c1 A2 0 c2) 56) = w1) := ⟨_, rfl⟩
  rw [HW1.out] at HK1 HB1 hz1 ⊢
  obtain ⟨k0, k1, k2, k3, k4, k5⟩ := feed_cells HK1.out
  go_wp2_with fail
  refine wp_region_any (by kernel_rfl) ?_
  change wpAny _ _ _ _ _ _ _ (World.drew _)
  refine wpAny_ready (rs := [0]) (by kernel_rfl) (by simp) (AllReady.cons rfl (fun K hK => ?_) AllReady.nil)
  go_simp
  refine hK _ _ ?_
  clear hK K
  refine wpAny_ready (rs := [1]) (by kernel_rfl) (by simp) (AllReady.cons rfl (fun K hK => ?_) AllReady.nil)
  go_simp
  go_at_call 119
  refine (C2.out _).mono ?_
  rintro e w2 ⟨rfl, hb2⟩
  have HB2 : Hid (Below w1.heap.size w1 w2) := below_drew_l hb2
  clear hb2
  refine hK _ _ ?_
  clear hK K
  refine wpAny_take (i := 2) (v := .bool true) rfl (by kernel_rfl) (by kernel_rfl) (by kernel_rfl) (fun _ _ _ h => h) (Or.inl ⟨by kernel_rfl, fun w => by go_simp⟩) ?_
  change wpAny _ _ _ _ _ _ (Act.put _ (some 47) _) _
  simp only [Act.put, Array.setIfInBounds, List.size_toArray, List.length_cons, List.length_nil, Nat.reduceAdd, Nat.reduceLT, dite_true, List.set_toArray, List.set_cons_zero, List.set_cons_succ]
  refine wpAny_take (i := 3) (v := .bool true) rfl (by kernel_rfl) (by kernel_rfl) (by kernel_rfl) (fun _ _ _ h => h) (Or.inl ⟨by kernel_rfl, fun w => by go_simp⟩) ?_
  change wpAny _ _ _ _ _ _ (Act.put _ (some 48) _) _
  simp only [Act.put, Array.setIfInBounds, List.size_toArray, List.length_cons, List.length_nil, Nat.reduceAdd, Nat.reduceLT, dite_true, List.set_toArray, List.set_cons_zero, List.set_cons_succ]
  refine wpAny_take (i := 4) (v := undef) rfl (by kernel_rfl) (by kernel_rfl) (by kernel_rfl) (fun _ _ _ h => h) (Or.inr ⟨by kernel_rfl, rfl⟩) ?_
  change wpAny _ _ _ _ _ _ (Act.put _ (some 49) _) _
  simp only [Act.put, Array.setIfInBounds, List.size_toArray, List.length_cons, List.length_nil, Nat.reduceAdd, Nat.reduceLT, dite_true, List.set_toArray, List.set_cons_zero, List.set_cons_succ]
  refine wpAny_take (i := 5) (v := undef) rfl (by kernel_rfl) (by kernel_rfl) (by kernel_rfl) (fun _ _ _ h => h) (Or.inr ⟨by kernel_rfl, rfl⟩) ?_
  change wpAny _ _ _ _ _ _ (Act.put _ (some 50) _) _
  simp only [Act.put, Array.setIfInBounds, List.size_toArray, List.length_cons, List.length_nil, Nat.reduceAdd, Nat.reduceLT, dite_true, List.set_toArray, List.set_cons_zero, List.set_cons_succ]
  refine wpAny_take (i := 6) (v := undef) rfl (by kernel_rfl) (by kernel_rfl) (by kernel_rfl) (fun _ _ _ h => h) (Or.inr ⟨by kernel_rfl, rfl⟩) ?_
  change wpAny _ _ _ _ _ _ (Act.put _ (some 51) _) _
  simp only [Act.put, Array.setIfInBounds, List.size_toArray, List.length_cons, List.length_nil, Nat.reduceAdd, Nat.reduceLT, dite_true, List.set_toArray, List.set_cons_zero, List.set_cons_succ]
  refine wpAny_take (i := 7) (v := undef) rfl (by kernel_rfl) (by kernel_rfl) (by kernel_rfl) (fun _ _ _ h => h) (Or.inr ⟨by kernel_rfl, rfl⟩) ?_
  change wpAny _ _ _ _ _ _ (Act.put _ (some 52) _) _
  simp only [Act.put, Array.setIfInBounds, List.size_toArray, List.length_cons, List.length_nil, Nat.reduceAdd, Nat.reduceLT, dite_true, List.set_toArray, List.set_cons_zero, List.set_cons_succ]
  refine wpAny_take (i := 8) (v := undef) rfl (by kernel_rfl) (by kernel_rfl) (by kernel_rfl) (fun _ _ _ h => h) (Or.inr ⟨by kernel_rfl, rfl⟩) ?_
  change wpAny _ _ _ _ _ _ (Act.put _ (some 53) _) _
  simp only [Act.put, Array.setIfInBounds, List.size_toArray, List.length_cons, List.length_nil, Nat.reduceAdd, Nat.reduceLT, dite_true, List.set_toArray, List.set_cons_zero, List.set_cons_succ]
  refine wpAny_take (i := 9) (v := undef) rfl (by kernel_rfl) (by kernel_rfl) (by kernel_rfl) (fun _ _ _ h => h) (Or.inr ⟨by kernel_rfl, rfl⟩) ?_
  change wpAny _ _ _ _ _ _ (Act.put _ (some 54) _) _
  simp only [Act.put, Array.setIfInBounds, List.size_toArray, List.length_cons, List.length_nil, Nat.reduceAdd, Nat.reduceLT, dite_true, List.set_toArray, List.set_cons_zero, List.set_cons_succ]
  refine wpAny_take (i := 10) (v := undef) rfl (by kernel_rfl) (by kernel_rfl) (by kernel_rfl) (fun _ _ _ h => h) (Or.inr ⟨by kernel_rfl, rfl⟩) ?_
  change wpAny _ _ _ _ _ _ (Act.put _ (some 55) _) _
  simp only [Act.put, Array.setIfInBounds, List.size_toArray, List.length_cons, List.length_nil, Nat.reduceAdd, Nat.reduceLT, dite_true, List.set_toArray, List.set_cons_zero, List.set_cons_succ]
  refine wpAny_take (i := 11) (v := undef) rfl (by kernel_rfl) (by kernel_rfl) (by kernel_rfl) (fun _ _ _ h => h) (Or.inr ⟨by kernel_rfl, rfl⟩) ?_
  change wpAny _ _ _ _ _ _ (Act.put _ (some 56) _) _
  simp only [Act.put, Array.setIfInBounds, List.size_toArray, List.length_cons, List.length_nil, Nat.reduceAdd, Nat.reduceLT, dite_true, List.set_toArray, List.set_cons_zero, List.set_cons_succ]
  refine wpAny_take (i := 12) (v := .bool true) rfl (by kernel_rfl) (by kernel_rfl) (by kernel_rfl) (fun _ _ _ h => h) (Or.inl ⟨by kernel_rfl, fun w => by go_simp⟩) ?_
  change wpAny _ _ _ _ _ _ (Act.put _ (some 57) _) _
  simp only [Act.put, Array.setIfInBounds, List.size_toArray, List.length_cons, List.length_nil, Nat.reduceAdd, Nat.reduceLT, dite_true, List.set_toArray, List.set_cons_zero, List.set_cons_succ]
  refine wpAny_take (i := 13) (v := .bool true) rfl (by kernel_rfl) (by kernel_rfl) (by kernel_rfl) (fun _ _ _ h => h) (Or.inl ⟨by kernel_rfl, fun w => by go_simp⟩) ?_
  change wpAny _ _ _ _ _ _ (Act.put _ (some 2) _) _
  simp only [Act.put, Array.setIfInBounds, List.size_toArray, List.length_cons, List.length_nil, Nat.reduceAdd, Nat.reduceLT, dite_true, List.set_toArray, List.set_cons_zero, List.set_cons_succ]
  refine wpAny_done (by kernel_rfl) ?_ _
  go_wp2
  go_ret
  exact ⟨rfl, HB1.out.trans (HB2.out.mono HB1.out.size)⟩

set_option maxHeartbeats 4000000 in
set_option maxRecDepth 100000 in
theorem fv_texts (p d s : Int) (A1 : Option Addr) (c1 : Nat) (A2 : Option Addr) (c2 : Nat) (bs : List ByteArray) (hs : List Bool) (w : World) (hF : FeedAt w w.heap.size A1 A2 bs hs) (h0 : 1 ≤ p) (h1 : p < 997) (hx : ¬ bs.length = 0) (h16 : bs.length ≤ 16) (hS : signedB p (bs.length : Int) d s = true) (hl : hs.length = bs.length) (hT : decide (TextsOk bs hs) = false) :
    Calls Tryz.prog 73 #[feedV p (bs.length : Int) d s A1 bs.length c1 A2 hs.length c2] w fun e w' => e = .returned (.bool false) ∧ Below w.heap.size w w' := by
  have HF := Lib.hid hF
  have HT := Lib.hid hT
  have C1 : Hid (∀ W : World, Below w.heap.size w W → Calls Tryz.prog 118 #[.slice A1 bs.length c1, .slice A2 hs.length c2] W fun e w' => e = .returned (.bool false) ∧ W = w') := fun W hW => by
    have h := textsValid_any A1 c1 A2 c2 bs hs W (HF.out.belowS hW) hl
    rw [HT.out] at h
    exact h
  rw [hl] at C1 ⊢
  obtain ⟨n, HN⟩ : ∃ n, Hid (bs.length = n) := ⟨_, rfl⟩
  rw [HN.out] at C1 hS h16 hx ⊢
  have HS := Lib.hid hS
  clear hS hl hF hT
  go_enter Tryz.func73, Tryz.ntmps73
  go_wp2_with fail
  refine (key_yes _ _ h0 h1).mono ?_
  rintro e w' ⟨rfl, rfl⟩
  go_wp2_with fail
  refine (check_any p (n : Int) d s _).mono ?_
  rintro e w1 ⟨rfl, hb1⟩
  rw [HS.out]
  have hz1 : w.heap.size < w1.heap.size := by have := hb1.size; simp at this; omega
  have HK1 := Lib.hid ((Blk.new w 56 (feedC p (n : Int) d s A1 n c1 A2 n c2)).below hb1 (by simp))
  obtain ⟨k0, k1, k2, k3, k4, k5⟩ := feed_cells HK1.out
  have HB1 : Hid (Below w.heap.size w w1) := ((Below.refl _ w).alloc (Nat.le_refl _) _).trans (hb1.mono (by simp))
  clear hb1
  go_wp2_with fail
  refine (C1.out _ HB1.out).mono ?_
  rintro e w' ⟨rfl, rfl⟩
  go_wp2
  go_ret
  exact ⟨rfl, HB1.out⟩

/-- TreeDigest of a row of the call's own that is not empty. -/
theorem tdig_own {w : World} {base : Nat} {X : Option Addr} {c n : Nat} {zs : List Int} {u : Int} (h : OwnInts w base X c zs) (hl : zs.length = n) (hn : ¬ n = 0) (hu : digestOr zs = u) (q : Nat) :
    Calls Tryz.prog 120 #[.slice X n c] w fun e w' => e = .returned (.int .i64 u) ∧ Below w.heap.size w w' := by
  obtain ⟨g, c', hv, _, _⟩ := World.ownsRow.form h (by omega)
  injection hv with hA _ _
  subst hA
  have := digest_any zs g 0 c w h.ints h.le.1 h.le.2
  rw [hl, hu] at this
  exact this

set_option maxHeartbeats 4000000 in
set_option maxRecDepth 100000 in
theorem fv_last (p d s : Int) (A1 : Option Addr) (c1 : Nat) (A2 : Option Addr) (c2 : Nat) (bs : List ByteArray) (hs : List Bool) (w : World) (hF : FeedAt w w.heap.size A1 A2 bs hs) (h0 : 1 ≤ p) (h1 : p < 997) (hx : ¬ bs.length = 0) (h16 : bs.length ≤ 16) (hS : signedB p (bs.length : Int) d s = true) (hl : hs.length = bs.length) (hT : decide (TextsOk bs hs) = true) :
    Calls Tryz.prog 73 #[feedV p (bs.length : Int) d s A1 bs.length c1 A2 hs.length c2] w fun e w' => e = .returned (.bool (!wholeB hs || digestOr (leafL bs) == d)) ∧ Below w.heap.size w w' := by
  have HF := Lib.hid hF
  have HT := Lib.hid hT
  have C1 : Hid (∀ W : World, Below w.heap.size w W → Calls Tryz.prog 118 #[.slice A1 bs.length c1, .slice A2 hs.length c2] W fun e w' => e = .returned (.bool true) ∧ W = w') := fun W hW => by
    have h := textsValid_any A1 c1 A2 c2 bs hs W (HF.out.belowS hW) hl
    rw [HT.out] at h
    exact h
  have C2 : Hid (∀ W : World, Below w.heap.size w W → Calls Tryz.prog 119 #[feedV p (bs.length : Int) d s A1 bs.length c1 A2 hs.length c2] W fun e w' => e = .returned (.bool (wholeB hs)) ∧ Below W.heap.size W w') := fun W hW =>
    isWhole_any p bs.length d s A1 bs.length c1 A2 c2 hs W (HF.out.belowS hW).bits HF.out.lh
  have C3 : Hid (∀ W : World, Below w.heap.size w W → Calls Tryz.prog 121 #[.slice A1 bs.length c1] W (RetInts W (leafL bs))) := fun W hW =>
    textDigests_any A1 c1 bs W (HF.out.belowS hW).strs HF.out.fit (by omega)
  rw [hl] at C1 C2 ⊢
  have HLL : Hid ((leafL bs).length = bs.length) := leafL_length bs
  obtain ⟨n, HN⟩ : ∃ n, Hid (bs.length = n) := ⟨_, rfl⟩
  rw [HN.out] at C1 C2 C3 HLL hS h16 hx ⊢
  obtain ⟨u, HU⟩ : ∃ u, Hid (digestOr (leafL bs) = u) := ⟨_, rfl⟩
  rw [HU.out]
  have HS := Lib.hid hS
  clear hS hl hF hT
  cases hw : wholeB hs with
  | false =>
    rw [hw] at C2
    clear hw
    go_enter Tryz.func73, Tryz.ntmps73
    go_wp2_with fail
    refine (key_yes _ _ h0 h1).mono ?_
    rintro e w' ⟨rfl, rfl⟩
    go_wp2_with fail
    refine (check_any p (n : Int) d s _).mono ?_
    rintro e w1 ⟨rfl, hb1⟩
    rw [HS.out]
    have hz1 : w.heap.size < w1.heap.size := by have := hb1.size; simp at this; omega
    have HK1 := Lib.hid ((Blk.new w 56 (feedC p (n : Int) d s A1 n c1 A2 n c2)).below hb1 (by simp))
    obtain ⟨k0, k1, k2, k3, k4, k5⟩ := feed_cells HK1.out
    have HB1 : Hid (Below w.heap.size w w1) := ((Below.refl _ w).alloc (Nat.le_refl _) _).trans (hb1.mono (by simp))
    clear hb1
    go_wp2_with fail
    refine (C1.out _ HB1.out).mono ?_
    rintro e w' ⟨rfl, rfl⟩
    go_wp2_with fail
    refine wp_region_any (by kernel_rfl) ?_
    change wpAny _ _ _ _ _ _ _ (World.drew _)
    refine wpAny_ready (rs := [0]) (by kernel_rfl) (by simp) (AllReady.cons rfl (fun K hK => ?_) AllReady.nil)
    go_simp
    refine hK _ _ ?_
    clear hK K
    refine wpAny_ready (rs := [1]) (by kernel_rfl) (by simp) (AllReady.cons rfl (fun K hK => ?_) AllReady.nil)
    go_simp
    go_at_call 119
    refine (C2.out _ (below_drew HB1.out)).mono ?_
    rintro e w2 ⟨rfl, hb2⟩
    have HB2 : Hid (Below w1.heap.size w1 w2) := below_drew_l hb2
    have HB2w : Hid (Below w.heap.size w w2) := HB1.out.trans (HB2.out.mono HB1.out.size)
    clear hb2
    refine hK _ _ ?_
    clear hK K
    refine wpAny_take (i := 2) (v := .bool true) rfl (by kernel_rfl) (by kernel_rfl) (by kernel_rfl) (fun _ _ _ h => h) (Or.inl ⟨by kernel_rfl, fun w => by go_simp⟩) ?_
    change wpAny _ _ _ _ _ _ (Act.put _ (some 47) _) _
    simp only [Act.put, Array.setIfInBounds, List.size_toArray, List.length_cons, List.length_nil, Nat.reduceAdd, Nat.reduceLT, dite_true, List.set_toArray, List.set_cons_zero, List.set_cons_succ]
    refine wpAny_take (i := 3) (v := .bool true) rfl (by kernel_rfl) (by kernel_rfl) (by kernel_rfl) (fun _ _ _ h => h) (Or.inl ⟨by kernel_rfl, fun w => by go_simp⟩) ?_
    change wpAny _ _ _ _ _ _ (Act.put _ (some 48) _) _
    simp only [Act.put, Array.setIfInBounds, List.size_toArray, List.length_cons, List.length_nil, Nat.reduceAdd, Nat.reduceLT, dite_true, List.set_toArray, List.set_cons_zero, List.set_cons_succ]
    refine wpAny_take (i := 4) (v := undef) rfl (by kernel_rfl) (by kernel_rfl) (by kernel_rfl) (fun _ _ _ h => h) (Or.inr ⟨by kernel_rfl, rfl⟩) ?_
    change wpAny _ _ _ _ _ _ (Act.put _ (some 49) _) _
    simp only [Act.put, Array.setIfInBounds, List.size_toArray, List.length_cons, List.length_nil, Nat.reduceAdd, Nat.reduceLT, dite_true, List.set_toArray, List.set_cons_zero, List.set_cons_succ]
    refine wpAny_take (i := 5) (v := undef) rfl (by kernel_rfl) (by kernel_rfl) (by kernel_rfl) (fun _ _ _ h => h) (Or.inr ⟨by kernel_rfl, rfl⟩) ?_
    change wpAny _ _ _ _ _ _ (Act.put _ (some 50) _) _
    simp only [Act.put, Array.setIfInBounds, List.size_toArray, List.length_cons, List.length_nil, Nat.reduceAdd, Nat.reduceLT, dite_true, List.set_toArray, List.set_cons_zero, List.set_cons_succ]
    refine wpAny_take (i := 6) (v := undef) rfl (by kernel_rfl) (by kernel_rfl) (by kernel_rfl) (fun _ _ _ h => h) (Or.inr ⟨by kernel_rfl, rfl⟩) ?_
    change wpAny _ _ _ _ _ _ (Act.put _ (some 51) _) _
    simp only [Act.put, Array.setIfInBounds, List.size_toArray, List.length_cons, List.length_nil, Nat.reduceAdd, Nat.reduceLT, dite_true, List.set_toArray, List.set_cons_zero, List.set_cons_succ]
    refine wpAny_take (i := 7) (v := undef) rfl (by kernel_rfl) (by kernel_rfl) (by kernel_rfl) (fun _ _ _ h => h) (Or.inr ⟨by kernel_rfl, rfl⟩) ?_
    change wpAny _ _ _ _ _ _ (Act.put _ (some 52) _) _
    simp only [Act.put, Array.setIfInBounds, List.size_toArray, List.length_cons, List.length_nil, Nat.reduceAdd, Nat.reduceLT, dite_true, List.set_toArray, List.set_cons_zero, List.set_cons_succ]
    refine wpAny_take (i := 8) (v := undef) rfl (by kernel_rfl) (by kernel_rfl) (by kernel_rfl) (fun _ _ _ h => h) (Or.inr ⟨by kernel_rfl, rfl⟩) ?_
    change wpAny _ _ _ _ _ _ (Act.put _ (some 53) _) _
    simp only [Act.put, Array.setIfInBounds, List.size_toArray, List.length_cons, List.length_nil, Nat.reduceAdd, Nat.reduceLT, dite_true, List.set_toArray, List.set_cons_zero, List.set_cons_succ]
    refine wpAny_take (i := 9) (v := undef) rfl (by kernel_rfl) (by kernel_rfl) (by kernel_rfl) (fun _ _ _ h => h) (Or.inr ⟨by kernel_rfl, rfl⟩) ?_
    change wpAny _ _ _ _ _ _ (Act.put _ (some 54) _) _
    simp only [Act.put, Array.setIfInBounds, List.size_toArray, List.length_cons, List.length_nil, Nat.reduceAdd, Nat.reduceLT, dite_true, List.set_toArray, List.set_cons_zero, List.set_cons_succ]
    refine wpAny_take (i := 10) (v := undef) rfl (by kernel_rfl) (by kernel_rfl) (by kernel_rfl) (fun _ _ _ h => h) (Or.inr ⟨by kernel_rfl, rfl⟩) ?_
    change wpAny _ _ _ _ _ _ (Act.put _ (some 55) _) _
    simp only [Act.put, Array.setIfInBounds, List.size_toArray, List.length_cons, List.length_nil, Nat.reduceAdd, Nat.reduceLT, dite_true, List.set_toArray, List.set_cons_zero, List.set_cons_succ]
    refine wpAny_take (i := 11) (v := undef) rfl (by kernel_rfl) (by kernel_rfl) (by kernel_rfl) (fun _ _ _ h => h) (Or.inr ⟨by kernel_rfl, rfl⟩) ?_
    change wpAny _ _ _ _ _ _ (Act.put _ (some 56) _) _
    simp only [Act.put, Array.setIfInBounds, List.size_toArray, List.length_cons, List.length_nil, Nat.reduceAdd, Nat.reduceLT, dite_true, List.set_toArray, List.set_cons_zero, List.set_cons_succ]
    refine wpAny_take (i := 12) (v := .bool true) rfl (by kernel_rfl) (by kernel_rfl) (by kernel_rfl) (fun _ _ _ h => h) (Or.inl ⟨by kernel_rfl, fun w => by go_simp⟩) ?_
    change wpAny _ _ _ _ _ _ (Act.put _ (some 57) _) _
    simp only [Act.put, Array.setIfInBounds, List.size_toArray, List.length_cons, List.length_nil, Nat.reduceAdd, Nat.reduceLT, dite_true, List.set_toArray, List.set_cons_zero, List.set_cons_succ]
    refine wpAny_take (i := 13) (v := .bool true) rfl (by kernel_rfl) (by kernel_rfl) (by kernel_rfl) (fun _ _ _ h => h) (Or.inl ⟨by kernel_rfl, fun w => by go_simp⟩) ?_
    change wpAny _ _ _ _ _ _ (Act.put _ (some 2) _) _
    simp only [Act.put, Array.setIfInBounds, List.size_toArray, List.length_cons, List.length_nil, Nat.reduceAdd, Nat.reduceLT, dite_true, List.set_toArray, List.set_cons_zero, List.set_cons_succ]
    refine wpAny_done (by kernel_rfl) ?_ _
    go_wp2
    go_ret
    exact ⟨rfl, HB2w.out⟩
  | true =>
    rw [hw] at C2
    clear hw
    go_enter Tryz.func73, Tryz.ntmps73
    go_wp2_with fail
    refine (key_yes _ _ h0 h1).mono ?_
    rintro e w' ⟨rfl, rfl⟩
    go_wp2_with fail
    refine (check_any p (n : Int) d s _).mono ?_
    rintro e w1 ⟨rfl, hb1⟩
    rw [HS.out]
    have hz1 : w.heap.size < w1.heap.size := by have := hb1.size; simp at this; omega
    have HK1 := Lib.hid ((Blk.new w 56 (feedC p (n : Int) d s A1 n c1 A2 n c2)).below hb1 (by simp))
    obtain ⟨k0, k1, k2, k3, k4, k5⟩ := feed_cells HK1.out
    have HB1 : Hid (Below w.heap.size w w1) := ((Below.refl _ w).alloc (Nat.le_refl _) _).trans (hb1.mono (by simp))
    clear hb1
    go_wp2_with fail
    refine (C1.out _ HB1.out).mono ?_
    rintro e w' ⟨rfl, rfl⟩
    go_wp2_with fail
    go_region_held3 (fun w' => w'.cell? ⟨w.heap.size, 0, none⟩ = some (.int .i64 p) ∧ w'.cell? ⟨w.heap.size, 1, none⟩ = some (.int .i64 n) ∧ w'.cell? ⟨w.heap.size, 2, none⟩ = some (.int .i64 d) ∧ w'.cell? ⟨w.heap.size, 3, none⟩ = some (.int .i64 s) ∧ w'.cell? ⟨w.heap.size, 4, none⟩ = some (.slice A1 n c1) ∧ w'.cell? ⟨w.heap.size, 5, none⟩ = some (.slice A2 n c2)) (go_keep)
      (first
        | (go_at_call 119; (with_reducible refine (C2.out _ ?_).mono ?_); exact below_drew HB1.out; rintro e w2 ⟨rfl, hb2⟩; have HB2 : Hid (Below w1.heap.size w1 w2) := below_drew_l hb2; have HB2w : Hid (Below w.heap.size w w2) := HB1.out.trans (HB2.out.mono HB1.out.size); obtain ⟨m0, m1, m2, m3, m4, m5⟩ := feed_cells (HK1.out.below HB2.out hz1); clear hb2)
        | (go_at_call 121; (with_reducible refine (C3.out _ HB2w.out).mono ?_); rintro e w3 ⟨X3, c3, rfl, ho3, hb3⟩; have HO3 := Lib.hid ho3; have HB3 : Hid (Below w2.heap.size w2 w3) := hb3; obtain ⟨q0, q1, q2, q3, q4, q5⟩ := feed_cells ((HK1.out.below HB2.out hz1).below HB3.out (Nat.lt_of_lt_of_le hz1 HB2.out.size)); clear hb3 ho3; rw [HLL.out])
        | (go_at_call 120; (with_reducible refine (tdig_own HO3.out HLL.out hx HU.out 0).mono ?_); rintro e w4 ⟨rfl, hb4⟩; have HB4 := Lib.hid hb4; obtain ⟨r0, r1, r2, r3, r4, r5⟩ := feed_cells (((HK1.out.below HB2.out hz1).below HB3.out (Nat.lt_of_lt_of_le hz1 HB2.out.size)).below HB4.out (Nat.lt_of_lt_of_le hz1 (Nat.le_trans HB2.out.size HB3.out.size))); clear hb4))
    go_wp2
    go_ret
    exact ⟨by simp, HB2w.out.trans ((HB3.out.mono HB2w.out.size).trans (HB4.out.mono (Nat.le_trans HB2w.out.size HB3.out.size)))⟩

theorem feedValid_any (p l d s : Int) (A1 : Option Addr) (c1 : Nat) (A2 : Option Addr) (c2 : Nat) (bs : List ByteArray) (hs : List Bool) (w : World) (hF : FeedAt w w.heap.size A1 A2 bs hs) :
    Calls Tryz.prog 73 #[feedV p l d s A1 bs.length c1 A2 hs.length c2] w fun e w' => e = .returned (.bool (okB ⟨p, l, d, s, bs, hs⟩)) ∧ Below w.heap.size w w' := by
  by_cases hp : 1 ≤ p ∧ p < 997
  · obtain ⟨h0, h1⟩ := hp
    by_cases hz : l = 0 ∧ d = 0 ∧ s = 0
    · obtain ⟨rfl, rfl, rfl⟩ := hz
      by_cases hn : bs.length = 0
      · by_cases hm : hs.length = 0
        · have e1 := List.eq_nil_of_length_eq_zero hn
          have e2 := List.eq_nil_of_length_eq_zero hm
          subst e1 e2
          rw [okB_yes ⟨⟨h0, h1⟩, .inl ⟨rfl, rfl, rfl⟩, ⟨rfl, rfl⟩, fun k hk => absurd hk (Nat.not_lt_zero _), fun e => by cases e⟩]
          exact fv_noneZ p A1 c1 A2 c2 w h0 h1
        · rw [ok_lens (by intro e; omega), hn]
          exact fv_lensZ2 p A1 c1 A2 hs.length c2 w (Nat.zero_le _) hF.lh h0 h1 hm
      · rw [ok_lens (by intro e; omega)]
        exact fv_lensZ1 p A1 bs.length c1 A2 hs.length c2 w hF.lb hF.lh h0 h1 hn
    · cases hS : signedB p l d s with
      | false =>
        rw [ok_head hz hS]
        by_cases hl : l = 0
        · subst hl
          by_cases hd : d = 0
          · subst hd
            exact fv_unsignedC p s A1 _ c1 A2 _ c2 w h0 h1 (fun e => hz ⟨rfl, rfl, e⟩) hS
          · exact fv_unsignedB p d s A1 _ c1 A2 _ c2 w h0 h1 hd hS
        · exact fv_unsignedA p l d s A1 _ c1 A2 _ c2 w h0 h1 hl hS
      | true =>
        have h16 := ((signedB_iff _ _ _ _).1 hS).2.1
        have hs1 := ((signedB_iff _ _ _ _).1 hS).2.2.2.1
        by_cases hl : l = 0
        · subst hl
          by_cases hn : bs.length = 0
          · by_cases hm : hs.length = 0
            · have e1 := List.eq_nil_of_length_eq_zero hn
              have e2 := List.eq_nil_of_length_eq_zero hm
              subst e1 e2
              rw [okB_yes ⟨⟨h0, h1⟩, .inr hS, ⟨rfl, rfl⟩, fun k hk => absurd hk (Nat.not_lt_zero _), fun e => by cases e⟩]
              by_cases hd : d = 0
              · subst hd
                exact fv_noneC p s A1 c1 A2 c2 w h0 h1 (by omega) hS
              · exact fv_noneB p d s A1 c1 A2 c2 w h0 h1 hd hS
            · rw [ok_lens (by intro e; omega), hn]
              by_cases hd : d = 0
              · subst hd
                exact fv_lensC2 p s A1 c1 A2 hs.length c2 w (Nat.zero_le _) hF.lh h0 h1 (by omega) hS hm
              · exact fv_lensB2 p d s A1 c1 A2 hs.length c2 w (Nat.zero_le _) hF.lh h0 h1 hd hS hm
          · rw [ok_lens (by intro e; omega)]
            by_cases hd : d = 0
            · subst hd
              exact fv_lensC1 p s A1 bs.length c1 A2 hs.length c2 w hF.lb hF.lh h0 h1 (by omega) hS hn
            · exact fv_lensB1 p d s A1 bs.length c1 A2 hs.length c2 w hF.lb hF.lh h0 h1 hd hS hn
        · by_cases hn : (bs.length : Int) = l
          · subst hn
            by_cases hm : hs.length = bs.length
            · cases hT : decide (TextsOk bs hs) with
              | false =>
                rw [ok_texts hT]
                exact fv_texts p d s A1 c1 A2 c2 bs hs w hF h0 h1 (by omega) (by omega) hS hm hT
              | true =>
                rw [ok_last ⟨h0, h1⟩ (.inr hS) ⟨rfl, by rw [hm]⟩ hT]
                exact fv_last p d s A1 c1 A2 c2 bs hs w hF h0 h1 (by omega) (by omega) hS hm hT
            · rw [ok_lens (by intro e; omega)]
              exact fv_lensA2 p d s A1 bs.length c1 A2 hs.length c2 w hF.lb hF.lh h0 h1 (by omega) hS hm
          · rw [ok_lens (fun e => hn e.1)]
            exact fv_lensA1 p l d s A1 bs.length c1 A2 hs.length c2 w hF.lb hF.lh h0 h1 hl hS hn
  · rw [ok_key hp]
    exact fv_key p l d s A1 bs.length c1 A2 hs.length c2 w hp

end Go.Proofs.YtkmebilhbjcfpaaGreat
