/- Contracts of FeedNew and of its model: a feed without a head and blocks. No conditions. -/
import Derived.Test.YtgpmodidpdjhkaaFeedWords
import Derived.Test.YtgpmodidpdjhkaaMake
namespace Go.Proofs.Ytgpmodidpdjhkaa
open Go.RowKit
set_option linter.unusedVariables false

/-- The six cells of a feed's block. -/
theorem feed_cells {W : World} {g : Nat} {t : TypeId} {v0 v1 v2 v3 v4 v5 : Value} (h : Blk W g t #[v0, v1, v2, v3, v4, v5]) : W.cell? ⟨g, 0, none⟩ = some v0 ∧ W.cell? ⟨g, 1, none⟩ = some v1 ∧ W.cell? ⟨g, 2, none⟩ = some v2 ∧ W.cell? ⟨g, 3, none⟩ = some v3 ∧ W.cell? ⟨g, 4, none⟩ = some v4 ∧ W.cell? ⟨g, 5, none⟩ = some v5 :=
  ⟨h.cell 0, h.cell 1, h.cell 2, h.cell 3, h.cell 4, h.cell 5⟩
theorem blk_frozen {W : World} {g : Nat} {t : TypeId} {cs : Array Value} (h : Blk W g t cs) (i : Nat) : W.frozen? ⟨g, i, none⟩ = false := by
  unfold Blk at h
  simp [World.frozen?, h]
/-- Six cells of one block are written. -/
theorem blk_six {W : World} {g : Nat} {t : TypeId} {u0 u1 u2 u3 u4 u5 : Value} (h : Blk W g t #[u0, u1, u2, u3, u4, u5]) (v0 v1 v2 v3 v4 v5 : Value) : Blk ((((((W.setCell ⟨g, 0, none⟩ v0).setCell ⟨g, 1, none⟩ v1).setCell ⟨g, 2, none⟩ v2).setCell ⟨g, 3, none⟩ v3).setCell ⟨g, 4, none⟩ v4).setCell ⟨g, 5, none⟩ v5) g t #[v0, v1, v2, v3, v4, v5] :=
  (((((h.setOwn 0 v0).setOwn 1 v1).setOwn 2 v2).setOwn 3 v3).setOwn 4 v4).setOwn 5 v5
theorem below_six {W w : World} {B g : Nat} (h : Below B w W) (hg : B ≤ g) (v0 v1 v2 v3 v4 v5 : Value) : Below B w ((((((W.setCell ⟨g, 0, none⟩ v0).setCell ⟨g, 1, none⟩ v1).setCell ⟨g, 2, none⟩ v2).setCell ⟨g, 3, none⟩ v3).setCell ⟨g, 4, none⟩ v4).setCell ⟨g, 5, none⟩ v5) :=
  (((((h.setCell (p := ⟨g, 0, none⟩) hg v0).setCell (p := ⟨g, 1, none⟩) hg v1).setCell (p := ⟨g, 2, none⟩) hg v2).setCell (p := ⟨g, 3, none⟩) hg v3).setCell (p := ⟨g, 4, none⟩) hg v4).setCell (p := ⟨g, 5, none⟩) hg v5
theorem size_six (W : World) (g : Nat) (v0 v1 v2 v3 v4 v5 : Value) : ((((((W.setCell ⟨g, 0, none⟩ v0).setCell ⟨g, 1, none⟩ v1).setCell ⟨g, 2, none⟩ v2).setCell ⟨g, 3, none⟩ v3).setCell ⟨g, 4, none⟩ v4).setCell ⟨g, 5, none⟩ v5).heap.size = W.heap.size := by simp
/-- The cells of a feed. -/
abbrev feedC (p l d s : Int) (A1 : Option Addr) (n1 c1 : Nat) (A2 : Option Addr) (n2 c2 : Nat) : Array Value := #[.int .i64 p, .int .i64 l, .int .i64 d, .int .i64 s, .slice A1 n1 c1, .slice A2 n2 c2]

set_option maxHeartbeats 2000000 in
set_option maxRecDepth 100000 in
theorem feedNew_yes (p : Int) (w : World) (h0 : 1 ≤ p) (h1 : p < 997) :
    Calls Try.prog 11 #[.int .i64 p] w fun e w' => e = .returned (.tuple #[feedV p 0 0 0 none 0 0 none 0 0, .bool true]) ∧ Below w.heap.size w w' := by
  go_enter Try.func11, Try.ntmps11
  go_wp2_with fail
  refine (key_yes _ _ h0 h1).mono ?_
  rintro e w' ⟨rfl, rfl⟩
  go_wp2
  have hblk := Blk.new w 29 (feedC p 0 0 0 none 0 0 none 0 0)
  have hbel : Below w.heap.size w (w.alloc (.cells (feedC p 0 0 0 none 0 0 none 0 0) 29)) := (Below.refl _ w).alloc (Nat.le_refl _) _
  obtain ⟨W, HW⟩ : ∃ W, Hid (w.alloc (.cells (feedC p 0 0 0 none 0 0 none 0 0) 29) = W) := ⟨_, rfl⟩
  rw [HW.out] at hblk hbel ⊢
  obtain ⟨c0, c1, c2, c3, c4, c5⟩ := feed_cells hblk
  exact bodyPost_ret (v := .tuple #[feedV p 0 0 0 none 0 0 none 0 0, .bool true]) (by simp [results, Try.results11, go_sem, c0, c1, c2, c3, c4, c5]) rfl ⟨rfl, hbel⟩

set_option maxHeartbeats 2000000 in
set_option maxRecDepth 100000 in
theorem feedNew_no (p : Int) (w : World) (h : ¬ (1 ≤ p ∧ p < 997)) :
    Calls Try.prog 11 #[.int .i64 p] w fun e w' => e = .returned (.tuple #[feedV 0 0 0 0 none 0 0 none 0 0, .bool false]) ∧ Below w.heap.size w w' := by
  have H := Lib.hid h
  clear h
  go_enter Try.func11, Try.ntmps11
  go_wp2_with fail
  refine (key_no _ _ H.out).mono ?_
  rintro e w' ⟨rfl, rfl⟩
  go_wp2
  have hblk := Blk.new w 29 (feedC 0 0 0 0 none 0 0 none 0 0)
  have hbel : Below w.heap.size w (w.alloc (.cells (feedC 0 0 0 0 none 0 0 none 0 0) 29)) := (Below.refl _ w).alloc (Nat.le_refl _) _
  obtain ⟨W, HW⟩ : ∃ W, Hid (w.alloc (.cells (feedC 0 0 0 0 none 0 0 none 0 0) 29) = W) := ⟨_, rfl⟩
  rw [HW.out] at hblk hbel ⊢
  obtain ⟨c0, c1, c2, c3, c4, c5⟩ := feed_cells hblk
  exact bodyPost_ret (v := .tuple #[feedV 0 0 0 0 none 0 0 none 0 0, .bool false]) (by simp [results, Try.results11, go_sem, c0, c1, c2, c3, c4, c5]) rfl ⟨rfl, hbel⟩

set_option maxHeartbeats 2000000 in
set_option maxRecDepth 100000 in
theorem empty_any (w : World) :
    Calls Try.prog 38 #[] w fun e w' => e = .returned (headV 0 0 0) ∧ Below w.heap.size w w' := by
  go_enter Try.func38, Try.ntmps38
  go_wp2
  have hblk := Blk.new w 25 #[.int .i64 0, .int .i64 0, .int .i64 0]
  have hbel : Below w.heap.size w (w.alloc (.cells #[.int .i64 0, .int .i64 0, .int .i64 0] 25)) := (Below.refl _ w).alloc (Nat.le_refl _) _
  obtain ⟨W, HW⟩ : ∃ W, Hid (w.alloc (.cells #[.int .i64 0, .int .i64 0, .int .i64 0] 25) = W) := ⟨_, rfl⟩
  rw [HW.out] at hblk hbel ⊢
  have c0 : W.cell? ⟨w.heap.size, 0, none⟩ = some (.int .i64 0) := hblk.cell 0
  have c1 : W.cell? ⟨w.heap.size, 1, none⟩ = some (.int .i64 0) := hblk.cell 1
  have c2 : W.cell? ⟨w.heap.size, 2, none⟩ = some (.int .i64 0) := hblk.cell 2
  exact bodyPost_ret (v := headV 0 0 0) (by simp [results, Try.results38, go_sem, c0, c1, c2]) rfl ⟨rfl, hbel⟩

set_option maxHeartbeats 2000000 in
set_option maxRecDepth 100000 in
theorem sfeedNew_no (p : Int) (w : World) (h : ¬ (1 ≤ p ∧ p < 997)) :
    Calls Try.prog 12 #[.int .i64 p] w fun e w' => e = .returned (.tuple #[feedV 0 0 0 0 none 0 0 none 0 0, .bool false]) ∧ Below w.heap.size w w' := by
  have H := Lib.hid h
  clear h
  go_enter Try.func12, Try.ntmps12
  go_wp2_with fail
  refine (skey_no _ _ H.out).mono ?_
  rintro e w' ⟨rfl, rfl⟩
  go_wp2
  have hblk := Blk.new w 29 (feedC 0 0 0 0 none 0 0 none 0 0)
  have hbel : Below w.heap.size w (w.alloc (.cells (feedC 0 0 0 0 none 0 0 none 0 0) 29)) := (Below.refl _ w).alloc (Nat.le_refl _) _
  obtain ⟨W, HW⟩ : ∃ W, Hid (w.alloc (.cells (feedC 0 0 0 0 none 0 0 none 0 0) 29) = W) := ⟨_, rfl⟩
  rw [HW.out] at hblk hbel ⊢
  obtain ⟨c0, c1, c2, c3, c4, c5⟩ := feed_cells hblk
  exact bodyPost_ret (v := .tuple #[feedV 0 0 0 0 none 0 0 none 0 0, .bool false]) (by simp [results, Try.results12, go_sem, c0, c1, c2, c3, c4, c5]) rfl ⟨rfl, hbel⟩

/-- A feed without blocks whose slices are laid, but empty. -/
def EmptyFeed (w : World) (p : Int) (e : Ending) (w' : World) : Prop :=
  ∃ g1 g2, e = .returned (.tuple #[feedV p 0 0 0 (some ⟨g1, 0, none⟩) 0 0 (some ⟨g2, 0, none⟩) 0 0, .bool true]) ∧ OwnFeed w' w.heap.size (some ⟨g1, 0, none⟩) 0 (some ⟨g2, 0, none⟩) 0 [] [] ∧ Below w.heap.size w w'

set_option maxHeartbeats 2000000 in
set_option maxRecDepth 100000 in
theorem sfeedNew_yes (p : Int) (w : World) (h0 : 1 ≤ p) (h1 : p < 997) :
    Calls Try.prog 12 #[.int .i64 p] w (EmptyFeed w p) := by
  go_enter Try.func12, Try.ntmps12
  go_wp2_with fail
  refine (skey_yes _ _ h0 h1).mono ?_
  rintro e w' ⟨rfl, rfl⟩
  go_wp2_with fail
  refine (empty_any _).mono ?_
  rintro e w1 ⟨rfl, hb1⟩
  have hz1 : w.heap.size < w1.heap.size := by have := hb1.size; simp at this; omega
  have hblk1 := (Blk.new w 29 (feedC 0 0 0 0 none 0 0 none 0 0)).below hb1 (by simp)
  obtain ⟨k0, k1, k2, k3, k4, k5⟩ := feed_cells hblk1
  have kf := blk_frozen hblk1
  have HK := Lib.hid hblk1
  have HB1 := Lib.hid hb1
  clear hb1 hblk1
  go_wp2
  obtain ⟨V, HV⟩ : ∃ V, Hid (((((((w1.setCell ⟨w.heap.size, 0, none⟩ (.int .i64 p)).setCell ⟨w.heap.size, 1, none⟩ (.int .i64 0)).setCell ⟨w.heap.size, 2, none⟩ (.int .i64 0)).setCell ⟨w.heap.size, 3, none⟩ (.int .i64 0)).setCell ⟨w.heap.size, 4, none⟩ (.slice (some ⟨w1.heap.size, 0, none⟩) 0 0)).setCell ⟨w.heap.size, 5, none⟩ (.slice (some ⟨w1.heap.size + 1, 0, none⟩) 0 0)) = V) := ⟨_, rfl⟩
  have hblk := blk_six HK.out (.int .i64 p) (.int .i64 0) (.int .i64 0) (.int .i64 0) (.slice (some ⟨w1.heap.size, 0, none⟩) 0 0) (.slice (some ⟨w1.heap.size + 1, 0, none⟩) 0 0)
  have hbel : Below w.heap.size w V := by
    rw [← HV.out]
    exact below_six (((Below.refl _ w).alloc (Nat.le_refl _) _).trans (HB1.out.mono (by simp))) (Nat.le_refl _) _ _ _ _ _ _
  have hsz : V.heap.size = w1.heap.size := by rw [← HV.out]; exact size_six _ _ _ _ _ _ _ _
  rw [HV.out] at hblk ⊢
  rw [← hsz] at hblk hz1 ⊢
  have hs := OwnStrs.new V
  have hh := OwnBools.new (V.alloc (.cells #[] 9))
  rw [World.size_alloc] at hh
  have hown : OwnFeed ((V.alloc (.cells #[] 9)).alloc (.cells #[] 4)) w.heap.size (some ⟨V.heap.size, 0, none⟩) 0 (some ⟨V.heap.size + 1, 0, none⟩) 0 [] [] := ⟨(hs.alloc _).base_le (by omega), hh.base_le (by omega), fun k => Nat.zero_le _⟩
  have hbel2 : Below w.heap.size w ((V.alloc (.cells #[] 9)).alloc (.cells #[] 4)) := (hbel.alloc (by omega) _).alloc (by simp; omega) _
  have hblk2 := (hblk.alloc (.cells #[] 9)).alloc (.cells #[] 4)
  obtain ⟨U, HU⟩ : ∃ U, Hid ((V.alloc (.cells #[] 9)).alloc (.cells #[] 4) = U) := ⟨_, rfl⟩
  rw [HU.out] at hown hbel2 hblk2 ⊢
  obtain ⟨c0, c1, c2, c3, c4, c5⟩ := feed_cells hblk2
  exact bodyPost_ret (v := .tuple #[feedV p 0 0 0 (some ⟨V.heap.size, 0, none⟩) 0 0 (some ⟨V.heap.size + 1, 0, none⟩) 0 0, .bool true]) (by simp [results, Try.results12, go_sem, c0, c1, c2, c3, c4, c5]) rfl ⟨_, _, rfl, hown, hbel2⟩

end Go.Proofs.Ytgpmodidpdjhkaa
