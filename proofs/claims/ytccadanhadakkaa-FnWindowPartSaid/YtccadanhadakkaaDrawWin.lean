/- Contracts of the laws' helpers over requests (equal lists; whether a request is there; how many there are for a block) and of the draws of windows of requests. Conditions: the requests lie in memory; the code's bytes lie in memory. -/
import Derived.Test.YtccadanhadakkaaSWinAsk
import Derived.Test.YtccadanhadakkaaBaseC
import Derived.Test.YtccadanhadakkaaBaseA
namespace Go.Proofs.Ytccadanhadakkaa
open Go.RowKit
set_option linter.unusedVariables false

theorem grown_setN {w W : World} {row : Option Nat} (h : w.grownBy W row) (p : Addr) (hp : w.heap.size ≤ p.block) (v : Value) : w.grownBy (W.setCell p v) row :=
  ⟨h.os, h.tape, h.output, by simpa using h.size, fun i hi hn => (Below.heap_setCell W p v i (by omega)).trans (h.block i hi hn)⟩
theorem in_allocA {w : World} {A : Option Addr} {len cap : Nat} (h : In w A len cap) (o : Obj) : In (w.alloc o) A len cap :=
  ⟨fun k hk => by
    obtain ⟨b, o', z, hA, hb, hc, h0, h1⟩ := h.bytes k hk
    exact ⟨b, o', z, hA, by simp; omega, (World.cell?_of_block (a := ⟨b, o' + k, none⟩) (Below.heap_alloc w o b hb)).trans hc, h0, h1⟩, h.le, h.most⟩
theorem own_set2 {w : World} {base c g : Nat} {X : Option Addr} {xs : List AD} (h : OwnRow AK w base X c xs) (hg : g < base) (u v : Value) : OwnRow AK ((w.setCell ⟨g, 0, none⟩ u).setCell ⟨g, 1, none⟩ v) base X c xs :=
  (h.keep (grown_set w g 0 u) (fun k hk => by injection hk with hk; omega)).keep (grown_set _ g 1 v) (fun k hk => by injection hk with hk; omega)
theorem below_set2 {W w : World} {B g : Nat} (h : Below B w W) (hg : B ≤ g) (u v : Value) : Below B w ((W.setCell ⟨g, 0, none⟩ u).setCell ⟨g, 1, none⟩ v) :=
  (h.setCell (p := ⟨g, 0, none⟩) hg u).setCell (p := ⟨g, 1, none⟩) hg v
set_option maxHeartbeats 4000000 in
set_option maxRecDepth 100000 in
theorem sameA_any (A : Option Addr) (c : Nat) (A1 : Option Addr) (c1 : Nat) (xs : List AD) (w : World) (hJ : AsksAt w w.heap.size A c xs) (hJ1 : AsksAt w w.heap.size A1 c1 xs) {n : Nat} (hn : xs.length = n) :
    Calls Try.prog 9 #[.slice A n c, .slice A1 n c1] w fun e w' => e = .returned (.bool true) ∧ Below w.heap.size w w' := by
  have hmx := hJ.most
  have hle := hJ.le
  unfold maxLen at hmx
  rw [hn] at hle
  have HN := Lib.hid hn
  have HJ := Lib.hid hJ
  have HJ1 := Lib.hid hJ1
  clear hJ hJ1 hn
  go_enter Try.func9, Try.ntmps9
  go_wp2
  go_loopw [5] (fun i w' => ∃ k : Nat, k ≤ n ∧ i = .int .i64 k ∧ ∃ q, w' = w.drewN q) (fun i _ => n - (intOf i).toNat)
  case atStart => exact ⟨0, Nat.zero_le _, rfl, 0, rfl⟩
  case round =>
    obtain ⟨k, hk, rfl, q, rfl⟩ := hrel
    by_cases hlt : k < n
    · have hkz : k < xs.length := by rw [HN.out]; exact hlt
      obtain ⟨b, o, rfl⟩ := HJ.out.row.some_ (by omega)
      obtain ⟨b', o', rfl⟩ := HJ1.out.row.some_ (by omega)
      obtain ⟨c0, d0⟩ := ask_cells HJ.out.row k hkz
      obtain ⟨c0', d0'⟩ := ask_cells HJ1.out.row k hkz
      obtain ⟨ri, HRI⟩ : ∃ x, Hid ((ath xs k).p = x) := ⟨_, rfl⟩
      obtain ⟨rt, HRT⟩ : ∃ x, Hid ((ath xs k).b = x) := ⟨_, rfl⟩
      rw [HRI.out] at c0 c0'
      rw [HRT.out] at d0 d0'
      have hk0 : (0 : Int) ≤ (k : Int) := by omega
      have hki : (k : Int) < (n : Int) := by omega
      clear hkz
      go_wp2_with fail
      go_quiet (fail)
      go_wp2
      go_roundw
      case rel => exact ⟨k + 1, by omega, by go_num, _, rfl⟩
      case measure => simp [intOf]; omega
    · go_wp2
      go_ret
      exact ⟨rfl, below_drewN (Below.refl _ _) _⟩






def AskDrawn (w : World) (B g : Nat) (A : Option Addr) (len cap p : Nat) (e : Ending) (w' : World) : Prop :=
  ∃ (a : AD) (p' : Nat), e = .returned (askV a) ∧ p' ≤ p + 4 ∧ Rd w' B g A len cap p' ∧ w.grownBy w' (some g)
set_option maxHeartbeats 4000000 in
set_option maxRecDepth 100000 in
theorem drawask_any {B g len cap p : Nat} {A : Option Addr} {w : World} (hR : Rd w B g A len cap p) (hp : p ≤ 95000) :
    Calls Try.prog 18 #[.pointer (some ⟨g, 0, none⟩)] w (AskDrawn w B g A len cap p) := by
  have HR := Lib.hid (hR.alloc (.cells #[.int .i64 0, .int .i64 0] 25))
  have hB := hR.big
  have hgl := hR.lt
  have KZ := Lib.hid (Blk.new w 25 #[.int .i64 0, .int .i64 0])
  have HG := Lib.hid (grown_of_alloc w (.cells #[.int .i64 0, .int .i64 0] 25) (some g))
  clear hR
  go_enter Try.func18, Try.ntmps18
  go_wp2_with fail
  refine (pick_any 6 HR.out (by omega) (by omega) (by omega)).mono ?_
  rintro e w1 ⟨x, hx, rfl, hR1, hg1, hz1⟩
  obtain ⟨q1, hq1⟩ : ∃ q, q = p + 1 := ⟨_, rfl⟩
  rw [← hq1] at hR1
  have HR1 := Lib.hid hR1
  have HG1 : Hid (w.grownBy w1 (some g)) := World.grownBy.trans HG.out hg1
  have KZ1 := Lib.hid (KZ.out.grown hg1 (fun e => by injection e with e; omega))
  clear hR1 hg1 hz1
  go_wp2_with fail
  refine (pick_any 8 HR1.out (by omega) (by omega) (by omega)).mono ?_
  rintro e w2 ⟨y, hy, rfl, hR2, hg2, hz2⟩
  obtain ⟨q2, hq2⟩ : ∃ q, q = q1 + 1 := ⟨_, rfl⟩
  rw [← hq2] at hR2
  have HR2 := Lib.hid hR2
  have HG2 : Hid (w.grownBy w2 (some g)) := World.grownBy.trans HG1.out hg2
  have KZ2 := Lib.hid (KZ1.out.grown hg2 (fun e => by injection e with e; omega))
  clear hR2 hg2 hz2
  have hz2 : w.heap.size < w2.heap.size := KZ2.out.lt
  have hgz : g < w2.heap.size := HR2.out.lt
  obtain ⟨w3, HW3⟩ : ∃ Q0, Hid (w2.alloc (.cells #[.int .i64 (x : Int), .int .i64 (y : Int)] 25) = Q0) := ⟨_, rfl⟩
  have HR3 : Hid (Rd w3 B g A len cap q2) := by rw [← HW3.out]; exact HR2.out.alloc _
  have KZ3 : Hid (Blk w3 w.heap.size 25 #[.int .i64 0, .int .i64 0]) := by rw [← HW3.out]; exact KZ2.out.alloc _
  have KO3 : Hid (Blk w3 w2.heap.size 25 #[.int .i64 (x : Int), .int .i64 (y : Int)]) := by rw [← HW3.out]; exact Blk.new w2 _ _
  have HG3 : Hid (w.grownBy w3 (some g)) := by rw [← HW3.out]; exact World.grownBy.trans HG2.out (grown_of_alloc w2 _ _)
  go_wp2_with fail
  rw [HW3.out]
  refine (pick_any 24 HR3.out (by omega) (by omega) (by omega)).mono ?_
  rintro e w4 ⟨z, hz, rfl, hR4, hg4, hz4⟩
  obtain ⟨q4, hq4⟩ : ∃ q, q = q2 + 1 := ⟨_, rfl⟩
  rw [← hq4] at hR4
  have HR4 := Lib.hid hR4
  have HG4 : Hid (w.grownBy w4 (some g)) := World.grownBy.trans HG3.out hg4
  have KZ4 := Lib.hid (KZ3.out.grown hg4 (fun e => by injection e with e; omega))
  have KO4 := Lib.hid (KO3.out.grown hg4 (fun e => by injection e with e; omega))
  clear hR4 hg4 hz4
  have hzz4 : w2.heap.size < w4.heap.size := KO4.out.lt
  by_cases hz0 : z = 0
  · subst hz0
    go_wp2_with fail
    refine (pick_any 2 HR4.out (by omega) (by omega) (by omega)).mono ?_
    rintro e w5 ⟨u, hu, rfl, hR5, hg5, hz5⟩
    obtain ⟨q5, hq5⟩ : ∃ q, q = q4 + 1 := ⟨_, rfl⟩
    rw [← hq5] at hR5
    have HR5 := Lib.hid hR5
    have HG5 : Hid (w.grownBy w5 (some g)) := World.grownBy.trans HG4.out hg5
    have KZ5 := Lib.hid (KZ4.out.grown hg5 (fun e => by injection e with e; omega))
    have KO5 := Lib.hid (KO4.out.grown hg5 (fun e => by injection e with e; omega))
    clear hR5 hg5 hz5
    have hm0 : (0 : Int) ≤ (u : Int) := by omega
    have hm1 : (u : Int) ≤ 2 := by omega
    obtain ⟨o0, o1⟩ := ask2 KO5.out
    have of := blk_frozen KO5.out
    go_upto_region 7 with fail
    obtain ⟨w6, HW6⟩ : ∃ Q0, Hid (w5.setCell ⟨w2.heap.size, 0, none⟩ (.int .i64 ((u : Int) * 7 - 1)) = Q0) := ⟨_, rfl⟩
    have KO6 : Hid (Blk w6 w2.heap.size 25 #[.int .i64 ((u : Int) * 7 - 1), .int .i64 ((y : Int))]) := by rw [← HW6.out]; exact KO5.out.setOwn 0 _
    have KZ6 : Hid (Blk w6 w.heap.size 25 #[.int .i64 0, .int .i64 0]) := by rw [← HW6.out]; exact KZ5.out.setOther (p := ⟨w2.heap.size, 0, none⟩) (by show w2.heap.size ≠ _; omega) _
    have HR6 : Hid (Rd w6 B g A len cap q5) := by rw [← HW6.out]; exact HR5.out.setOther (q := ⟨w2.heap.size, 0, none⟩) (by show B ≤ w2.heap.size; omega) (by show w2.heap.size ≠ g; omega) _
    have HG6 : Hid (w.grownBy w6 (some g)) := by rw [← HW6.out]; exact grown_setN HG5.out ⟨w2.heap.size, 0, none⟩ (by show w.heap.size ≤ w2.heap.size; omega) _
    have hzz6 : w2.heap.size < w6.heap.size := KO6.out.lt
    rw [HW6.out]
    clear o0 o1 of
    obtain ⟨o0, o1⟩ := ask2 KO6.out
    obtain ⟨z0, z1⟩ := ask2 KZ6.out
    have zf := blk_frozen KZ6.out
    go_wp2
    obtain ⟨Y, HY⟩ : ∃ Q0, Hid ((w6.setCell ⟨w.heap.size, 0, none⟩ (.int .i64 ((u : Int) * 7 - 1))).setCell ⟨w.heap.size, 1, none⟩ (.int .i64 ((y : Int))) = Q0) := ⟨_, rfl⟩
    have KY : Hid (Blk Y w.heap.size 25 #[.int .i64 ((u : Int) * 7 - 1), .int .i64 ((y : Int))]) := by rw [← HY.out]; exact (KZ6.out.setOwn 0 _).setOwn 1 _
    have HRY : Hid (Rd Y B g A len cap q5) := by rw [← HY.out]; exact (HR6.out.setOther (q := ⟨w.heap.size, 0, none⟩) (by show B ≤ w.heap.size; omega) (by show w.heap.size ≠ g; omega) _).setOther (q := ⟨w.heap.size, 1, none⟩) (by show B ≤ w.heap.size; omega) (by show w.heap.size ≠ g; omega) _
    have HGY : Hid (w.grownBy Y (some g)) := by rw [← HY.out]; exact grown_setN (grown_setN HG6.out ⟨w.heap.size, 0, none⟩ (Nat.le_refl _) _) ⟨w.heap.size, 1, none⟩ (Nat.le_refl _) _
    rw [HY.out]
    obtain ⟨y0, y1⟩ := ask2 KY.out
    exact bodyPost_ret (v := askV ⟨(u : Int) * 7 - 1, (y : Int)⟩) (by simp [results, Try.results18, go_sem, y0, y1]) rfl ⟨⟨(u : Int) * 7 - 1, (y : Int)⟩, q5, rfl, by omega, HRY.out, HGY.out⟩
  · have hzi : ((z : Int) == 0) = false := by rw [beq_eq_false_iff_ne]; omega
    by_cases hz1 : z = 1
    · subst hz1
      obtain ⟨w4a, HW4a⟩ : ∃ Q0, Hid (w4.alloc (.cells #[.int .i64 (-1), .int .i64 15, .int .i64 16] 3) = Q0) := ⟨_, rfl⟩
      have HR4a : Hid (Rd w4a B g A len cap q4) := by rw [← HW4a.out]; exact HR4.out.alloc _
      have KZ4a : Hid (Blk w4a w.heap.size 25 #[.int .i64 0, .int .i64 0]) := by rw [← HW4a.out]; exact KZ4.out.alloc _
      have KO4a : Hid (Blk w4a w2.heap.size 25 #[.int .i64 (x : Int), .int .i64 (y : Int)]) := by rw [← HW4a.out]; exact KO4.out.alloc _
      have KS4a : Hid (Blk w4a w4.heap.size 3 #[.int .i64 (-1), .int .i64 15, .int .i64 16]) := by rw [← HW4a.out]; exact Blk.new w4 _ _
      have HG4a : Hid (w.grownBy w4a (some g)) := by rw [← HW4a.out]; exact World.grownBy.trans HG4.out (grown_of_alloc w4 _ _)
      have hg4 : g < w4.heap.size := HR4.out.lt
      go_wp2_with fail
      rw [HW4a.out]
      refine (pick_any 3 HR4a.out (by omega) (by omega) (by omega)).mono ?_
      rintro e w5 ⟨u, hu, rfl, hR5, hg5, hz5⟩
      obtain ⟨q5, hq5⟩ : ∃ q, q = q4 + 1 := ⟨_, rfl⟩
      rw [← hq5] at hR5
      have HR5 := Lib.hid hR5
      have HG5 : Hid (w.grownBy w5 (some g)) := World.grownBy.trans HG4a.out hg5
      have KZ5 := Lib.hid (KZ4a.out.grown hg5 (fun e => by injection e with e; omega))
      have KO5 := Lib.hid (KO4a.out.grown hg5 (fun e => by injection e with e; omega))
      have KS5 := Lib.hid (KS4a.out.grown hg5 (fun e => by injection e with e; omega))
      clear hR5 hg5 hz5
      have hu3 : u = 0 ∨ u = 1 ∨ u = 2 := by omega
      have s0 := KS5.out.cell 0
      have s1 := KS5.out.cell 1
      have s2 := KS5.out.cell 2
      simp at s0 s1 s2
      rcases hu3 with rfl | rfl | rfl
      · obtain ⟨o0, o1⟩ := ask2 KO5.out
        have of := blk_frozen KO5.out
        go_upto_region 7 with fail
        obtain ⟨w6, HW6⟩ : ∃ Q0, Hid (w5.setCell ⟨w2.heap.size, 1, none⟩ (.int .i64 (-1)) = Q0) := ⟨_, rfl⟩
        have KO6 : Hid (Blk w6 w2.heap.size 25 #[.int .i64 ((x : Int)), .int .i64 (-1)]) := by rw [← HW6.out]; exact KO5.out.setOwn 1 _
        have KZ6 : Hid (Blk w6 w.heap.size 25 #[.int .i64 0, .int .i64 0]) := by rw [← HW6.out]; exact KZ5.out.setOther (p := ⟨w2.heap.size, 1, none⟩) (by show w2.heap.size ≠ _; omega) _
        have HR6 : Hid (Rd w6 B g A len cap q5) := by rw [← HW6.out]; exact HR5.out.setOther (q := ⟨w2.heap.size, 1, none⟩) (by show B ≤ w2.heap.size; omega) (by show w2.heap.size ≠ g; omega) _
        have HG6 : Hid (w.grownBy w6 (some g)) := by rw [← HW6.out]; exact grown_setN HG5.out ⟨w2.heap.size, 1, none⟩ (by show w.heap.size ≤ w2.heap.size; omega) _
        have hzz6 : w2.heap.size < w6.heap.size := KO6.out.lt
        rw [HW6.out]
        clear o0 o1 of
        obtain ⟨o0, o1⟩ := ask2 KO6.out
        obtain ⟨z0, z1⟩ := ask2 KZ6.out
        have zf := blk_frozen KZ6.out
        go_wp2
        obtain ⟨Y, HY⟩ : ∃ Q0, Hid ((w6.setCell ⟨w.heap.size, 0, none⟩ (.int .i64 ((x : Int)))).setCell ⟨w.heap.size, 1, none⟩ (.int .i64 (-1)) = Q0) := ⟨_, rfl⟩
        have KY : Hid (Blk Y w.heap.size 25 #[.int .i64 ((x : Int)), .int .i64 (-1)]) := by rw [← HY.out]; exact (KZ6.out.setOwn 0 _).setOwn 1 _
        have HRY : Hid (Rd Y B g A len cap q5) := by rw [← HY.out]; exact (HR6.out.setOther (q := ⟨w.heap.size, 0, none⟩) (by show B ≤ w.heap.size; omega) (by show w.heap.size ≠ g; omega) _).setOther (q := ⟨w.heap.size, 1, none⟩) (by show B ≤ w.heap.size; omega) (by show w.heap.size ≠ g; omega) _
        have HGY : Hid (w.grownBy Y (some g)) := by rw [← HY.out]; exact grown_setN (grown_setN HG6.out ⟨w.heap.size, 0, none⟩ (Nat.le_refl _) _) ⟨w.heap.size, 1, none⟩ (Nat.le_refl _) _
        rw [HY.out]
        obtain ⟨y0, y1⟩ := ask2 KY.out
        exact bodyPost_ret (v := askV ⟨(x : Int), -1⟩) (by simp [results, Try.results18, go_sem, y0, y1]) rfl ⟨⟨(x : Int), -1⟩, q5, rfl, by omega, HRY.out, HGY.out⟩
      · obtain ⟨o0, o1⟩ := ask2 KO5.out
        have of := blk_frozen KO5.out
        go_upto_region 7 with fail
        obtain ⟨w6, HW6⟩ : ∃ Q0, Hid (w5.setCell ⟨w2.heap.size, 1, none⟩ (.int .i64 (15)) = Q0) := ⟨_, rfl⟩
        have KO6 : Hid (Blk w6 w2.heap.size 25 #[.int .i64 ((x : Int)), .int .i64 (15)]) := by rw [← HW6.out]; exact KO5.out.setOwn 1 _
        have KZ6 : Hid (Blk w6 w.heap.size 25 #[.int .i64 0, .int .i64 0]) := by rw [← HW6.out]; exact KZ5.out.setOther (p := ⟨w2.heap.size, 1, none⟩) (by show w2.heap.size ≠ _; omega) _
        have HR6 : Hid (Rd w6 B g A len cap q5) := by rw [← HW6.out]; exact HR5.out.setOther (q := ⟨w2.heap.size, 1, none⟩) (by show B ≤ w2.heap.size; omega) (by show w2.heap.size ≠ g; omega) _
        have HG6 : Hid (w.grownBy w6 (some g)) := by rw [← HW6.out]; exact grown_setN HG5.out ⟨w2.heap.size, 1, none⟩ (by show w.heap.size ≤ w2.heap.size; omega) _
        have hzz6 : w2.heap.size < w6.heap.size := KO6.out.lt
        rw [HW6.out]
        clear o0 o1 of
        obtain ⟨o0, o1⟩ := ask2 KO6.out
        obtain ⟨z0, z1⟩ := ask2 KZ6.out
        have zf := blk_frozen KZ6.out
        go_wp2
        obtain ⟨Y, HY⟩ : ∃ Q0, Hid ((w6.setCell ⟨w.heap.size, 0, none⟩ (.int .i64 ((x : Int)))).setCell ⟨w.heap.size, 1, none⟩ (.int .i64 (15)) = Q0) := ⟨_, rfl⟩
        have KY : Hid (Blk Y w.heap.size 25 #[.int .i64 ((x : Int)), .int .i64 (15)]) := by rw [← HY.out]; exact (KZ6.out.setOwn 0 _).setOwn 1 _
        have HRY : Hid (Rd Y B g A len cap q5) := by rw [← HY.out]; exact (HR6.out.setOther (q := ⟨w.heap.size, 0, none⟩) (by show B ≤ w.heap.size; omega) (by show w.heap.size ≠ g; omega) _).setOther (q := ⟨w.heap.size, 1, none⟩) (by show B ≤ w.heap.size; omega) (by show w.heap.size ≠ g; omega) _
        have HGY : Hid (w.grownBy Y (some g)) := by rw [← HY.out]; exact grown_setN (grown_setN HG6.out ⟨w.heap.size, 0, none⟩ (Nat.le_refl _) _) ⟨w.heap.size, 1, none⟩ (Nat.le_refl _) _
        rw [HY.out]
        obtain ⟨y0, y1⟩ := ask2 KY.out
        exact bodyPost_ret (v := askV ⟨(x : Int), 15⟩) (by simp [results, Try.results18, go_sem, y0, y1]) rfl ⟨⟨(x : Int), 15⟩, q5, rfl, by omega, HRY.out, HGY.out⟩
      · obtain ⟨o0, o1⟩ := ask2 KO5.out
        have of := blk_frozen KO5.out
        go_upto_region 7 with fail
        obtain ⟨w6, HW6⟩ : ∃ Q0, Hid (w5.setCell ⟨w2.heap.size, 1, none⟩ (.int .i64 (16)) = Q0) := ⟨_, rfl⟩
        have KO6 : Hid (Blk w6 w2.heap.size 25 #[.int .i64 ((x : Int)), .int .i64 (16)]) := by rw [← HW6.out]; exact KO5.out.setOwn 1 _
        have KZ6 : Hid (Blk w6 w.heap.size 25 #[.int .i64 0, .int .i64 0]) := by rw [← HW6.out]; exact KZ5.out.setOther (p := ⟨w2.heap.size, 1, none⟩) (by show w2.heap.size ≠ _; omega) _
        have HR6 : Hid (Rd w6 B g A len cap q5) := by rw [← HW6.out]; exact HR5.out.setOther (q := ⟨w2.heap.size, 1, none⟩) (by show B ≤ w2.heap.size; omega) (by show w2.heap.size ≠ g; omega) _
        have HG6 : Hid (w.grownBy w6 (some g)) := by rw [← HW6.out]; exact grown_setN HG5.out ⟨w2.heap.size, 1, none⟩ (by show w.heap.size ≤ w2.heap.size; omega) _
        have hzz6 : w2.heap.size < w6.heap.size := KO6.out.lt
        rw [HW6.out]
        clear o0 o1 of
        obtain ⟨o0, o1⟩ := ask2 KO6.out
        obtain ⟨z0, z1⟩ := ask2 KZ6.out
        have zf := blk_frozen KZ6.out
        go_wp2
        obtain ⟨Y, HY⟩ : ∃ Q0, Hid ((w6.setCell ⟨w.heap.size, 0, none⟩ (.int .i64 ((x : Int)))).setCell ⟨w.heap.size, 1, none⟩ (.int .i64 (16)) = Q0) := ⟨_, rfl⟩
        have KY : Hid (Blk Y w.heap.size 25 #[.int .i64 ((x : Int)), .int .i64 (16)]) := by rw [← HY.out]; exact (KZ6.out.setOwn 0 _).setOwn 1 _
        have HRY : Hid (Rd Y B g A len cap q5) := by rw [← HY.out]; exact (HR6.out.setOther (q := ⟨w.heap.size, 0, none⟩) (by show B ≤ w.heap.size; omega) (by show w.heap.size ≠ g; omega) _).setOther (q := ⟨w.heap.size, 1, none⟩) (by show B ≤ w.heap.size; omega) (by show w.heap.size ≠ g; omega) _
        have HGY : Hid (w.grownBy Y (some g)) := by rw [← HY.out]; exact grown_setN (grown_setN HG6.out ⟨w.heap.size, 0, none⟩ (Nat.le_refl _) _) ⟨w.heap.size, 1, none⟩ (Nat.le_refl _) _
        rw [HY.out]
        obtain ⟨y0, y1⟩ := ask2 KY.out
        exact bodyPost_ret (v := askV ⟨(x : Int), 16⟩) (by simp [results, Try.results18, go_sem, y0, y1]) rfl ⟨⟨(x : Int), 16⟩, q5, rfl, by omega, HRY.out, HGY.out⟩
    · have hzi1 : ((z : Int) == 1) = false := by rw [beq_eq_false_iff_ne]; omega
      obtain ⟨o0, o1⟩ := ask2 KO4.out
      obtain ⟨z0, z1⟩ := ask2 KZ4.out
      have zf := blk_frozen KZ4.out
      go_wp2
      obtain ⟨Y, HY⟩ : ∃ Q0, Hid ((w4.setCell ⟨w.heap.size, 0, none⟩ (.int .i64 ((x : Int)))).setCell ⟨w.heap.size, 1, none⟩ (.int .i64 ((y : Int))) = Q0) := ⟨_, rfl⟩
      have KY : Hid (Blk Y w.heap.size 25 #[.int .i64 ((x : Int)), .int .i64 ((y : Int))]) := by rw [← HY.out]; exact (KZ4.out.setOwn 0 _).setOwn 1 _
      have HRY : Hid (Rd Y B g A len cap q4) := by rw [← HY.out]; exact (HR4.out.setOther (q := ⟨w.heap.size, 0, none⟩) (by show B ≤ w.heap.size; omega) (by show w.heap.size ≠ g; omega) _).setOther (q := ⟨w.heap.size, 1, none⟩) (by show B ≤ w.heap.size; omega) (by show w.heap.size ≠ g; omega) _
      have HGY : Hid (w.grownBy Y (some g)) := by rw [← HY.out]; exact grown_setN (grown_setN HG4.out ⟨w.heap.size, 0, none⟩ (Nat.le_refl _) _) ⟨w.heap.size, 1, none⟩ (Nat.le_refl _) _
      rw [HY.out]
      obtain ⟨y0, y1⟩ := ask2 KY.out
      exact bodyPost_ret (v := askV ⟨(x : Int), (y : Int)⟩) (by simp [results, Try.results18, go_sem, y0, y1]) rfl ⟨⟨(x : Int), (y : Int)⟩, q4, rfl, by omega, HRY.out, HGY.out⟩

def WinDrawn (w : World) (B g : Nat) (A : Option Addr) (len cap p : Nat) (e : Ending) (w' : World) : Prop :=
  ∃ (X : Option Addr) (c : Nat) (xs : List AD) (p' : Nat), e = .returned (.slice X xs.length c) ∧ OwnRow AK w' w.heap.size X c xs ∧ xs.length ≤ 20 ∧ p' ≤ p + 80 ∧ Rd w' B g A len cap p' ∧ w.grownBy w' (some g)
set_option maxHeartbeats 4000000 in
set_option maxRecDepth 100000 in
theorem drawwin_any {B g len cap p : Nat} {A : Option Addr} {w : World} (hR : Rd w B g A len cap p) (hp : p ≤ 90000) :
    Calls Try.prog 17 #[.pointer (some ⟨g, 0, none⟩)] w (WinDrawn w B g A len cap p) := by
  obtain ⟨i0, zz, hi0, hz0, hz1, hz2, hz3⟩ := ask_app_info
  have HI0 := Lib.hid (And.intro hi0 (And.intro hz0 (And.intro hz1 (And.intro hz2 hz3))))
  clear hi0 hz0 hz1 hz2 hz3
  have hB := hR.big
  have hgl := hR.lt
  obtain ⟨w0, HW⟩ : ∃ W, Hid (w.alloc (.cells #[] 25) = W) := ⟨_, rfl⟩
  have HR0 : Hid (Rd w0 B g A len cap p) := by rw [← HW.out]; exact hR.alloc _
  have HO0 : Hid (OwnRow AK w0 w.heap.size (some ⟨w.heap.size, 0, none⟩) 0 []) := by rw [← HW.out]; exact OwnRow.new AK w
  have HG0 : Hid (w.grownBy w0 (some g)) := by rw [← HW.out]; exact grown_of_alloc w _ _
  clear hR
  go_enter Try.func17, Try.ntmps17
  go_upto_region 2 with fail
  rw [HW.out]
  go_wp2_with fail
  refine (pick_any 14 HR0.out (by omega) (by omega) (by omega)).mono ?_
  rintro e w1 ⟨n, hn, rfl, hR1, hg1, hz1⟩
  have HR1 := Lib.hid hR1
  have HO1 := Lib.hid (HO0.out.keep hg1 (fun k hk => by injection hk with hk; omega))
  have HG1 : Hid (w.grownBy w1 (some g)) := World.grownBy.trans HG0.out hg1
  clear hR1 hg1 hz1
  go_wp2
  go_loopw [3, 5] (fun s i wr => ∃ (k m x q : Nat) (X : Option Addr) (xs : List AD), k ≤ n ∧ m ≤ 18 ∧ s = .slice X m x ∧ i = .int .i64 (k : Int) ∧ q ≤ p + 1 + 5 * k ∧ Hid (xs.length = m) ∧ Hid (OwnRow AK wr w.heap.size X x xs) ∧ Hid (Rd wr B g A len cap q) ∧ Hid (w.grownBy wr (some g))) (fun _ i _ => n - (intOf i).toNat)
  case atStart => exact ⟨0, 0, 0, p + 1, _, [], Nat.zero_le _, by omega, rfl, rfl, by omega, rfl, HO1, HR1, HG1⟩
  case round =>
    obtain ⟨k, m, x, q, X, xs, hk, hm, rfl, rfl, hq, HN, HOr, HRr, HGr⟩ := hrel
    by_cases hlt : k < n
    · have hki : (k : Int) < (n : Int) := by omega
      go_wp2_with fail
      refine (drawask_any HRr.out (by omega)).mono ?_
      rintro e wa ⟨a, qa, rfl, hqa, hRa, hga⟩
      obtain ⟨ap, ab⟩ := a
      have HRa := Lib.hid hRa
      have HOa := Lib.hid (HOr.out.keep hga (fun k hk => by injection hk with hk; omega))
      have HGa : Hid (w.grownBy wa (some g)) := World.grownBy.trans HGr.out hga
      clear hRa hga
      go_wp2_with fail
      refine (pick_any 3 HRa.out (by omega) (by omega) (by omega)).mono ?_
      rintro e wb ⟨z, hz, rfl, hRb, hgb, hzb⟩
      have HRb := Lib.hid hRb
      have HOb := Lib.hid (HOa.out.keep hgb (fun k hk => by injection hk with hk; omega))
      have HGb : Hid (w.grownBy wb (some g)) := World.grownBy.trans HGa.out hgb
      clear hRb hgb hzb
      obtain ⟨en, hen⟩ : ∃ v, ((z : Int) == 0) = v := ⟨_, rfl⟩
      have HCA := Lib.hid (swinAsk_any X x xs ⟨ap, ab⟩ en wb (own_asks HOb.out))
      rw [HN.out] at HCA
      have hwb : w.heap.size ≤ wb.heap.size := HGb.out.size
      go_wp2_with fail
      refine HCA.out.mono ?_
      rintro e wc ⟨Y, y, rfl, hoc, hbc⟩
      have HRc := Lib.hid (HRb.out.grown (grown_of_below hbc none) (fun k hk => by cases hk))
      have HGc : Hid (w.grownBy wc (some g)) := World.grownBy.trans HGb.out (grown_of_below hbc _)
      have HOc := Lib.hid (HOb.out.below hbc)
      cases hv : askO xs ⟨ap, ab⟩ en with
      | false =>
        obtain ⟨mm, HMM⟩ : ∃ v, Hid ((askR xs ⟨ap, ab⟩ en).length = v) := ⟨_, rfl⟩
        rw [HMM.out]
        clear hoc hbc HCA
        go_wp2
        go_roundw
        case rel => exact ⟨k + 1, m, x, qa + 1, X, xs, by omega, hm, rfl, by go_num, by omega, HN, HOc, HRc, HGc⟩
        case measure => simp [intOf]; omega
      | true =>
        have HOY : Hid (OwnRow AK wc w.heap.size Y y (xs ++ [⟨ap, ab⟩])) := by
          rw [askR_yes hv] at hoc
          exact hoc.base_le hwb
        have hm1 : m + 1 ≤ 18 := by
          have h := winB_short (win_ask hv)
          rw [List.length_append, HN.out] at h
          exact h
        have HLL : Hid ((askR xs ⟨ap, ab⟩ en).length = m + 1) := by show _ = _; rw [askR_yes hv, List.length_append, HN.out]; rfl
        have HLN : Hid ((xs ++ [(⟨ap, ab⟩ : AD)]).length = m + 1) := by show _ = _; rw [List.length_append, HN.out]; rfl
        rw [HLL.out]
        clear hoc hbc HCA
        go_wp2
        go_roundw
        case rel => exact ⟨k + 1, m + 1, y, qa + 1, Y, xs ++ [⟨ap, ab⟩], by omega, hm1, rfl, by go_num, by omega, HLN, HOY, HRc, HGc⟩
        case measure => simp [intOf]; omega
    · have hkn : k = n := by omega
      subst hkn
      go_wp2_with fail
      refine (pick_any 16 HRr.out (by omega) (by omega) (by omega)).mono ?_
      rintro e wa ⟨z, hz, rfl, hRa, hga, hza⟩
      have HRa := Lib.hid hRa
      have HOa := Lib.hid (HOr.out.keep hga (fun k hk => by injection hk with hk; omega))
      have HGa : Hid (w.grownBy wa (some g)) := World.grownBy.trans HGr.out hga
      clear hRa hga hza
      by_cases hz0 : z = 0
      · subst hz0
        go_wp2_with fail
        refine (drawask_any HRa.out (by omega)).mono ?_
        rintro e wb ⟨a, qb, rfl, hqb, hRb, hgb⟩
        obtain ⟨ap, ab⟩ := a
        have HRb := Lib.hid hRb
        have HOb := Lib.hid (HOa.out.keep hgb (fun k hk => by injection hk with hk; omega))
        have HGb : Hid (w.grownBy wb (some g)) := World.grownBy.trans HGa.out hgb
        clear hRb hgb
        have hwb : w.heap.size ≤ wb.heap.size := HGb.out.size
        have hgb : g < wb.heap.size := HRb.out.lt
        go_wp2_with (at_builtin; refine wpList_app_row (K := AK) Try.underlying23 HI0.out.1 HI0.out.2.1 HI0.out.2.2.1 HI0.out.2.2.2.1 HI0.out.2.2.2.2 (by decide) rfl (.tmp 31) (.tmp 34) rfl _ w.heap.size X x xs (by rw [HN.out]; rfl) _ _ [(⟨ap, ab⟩ : AD)] rfl (HOb.out.alloc _) (one_newR AK wb ⟨ap, ab⟩ _) (by rw [HN.out]; show m + 1 ≤ 1000000; omega) (by rw [World.size_alloc]; omega) (fun e => by cases e) ?_; intro v wc hA; obtain ⟨Y, y, rfl, hoc⟩ := hA.own; have hgc := hA.grown; have hbc := hA.below; have HMM : Hid ((xs ++ [(⟨ap, ab⟩ : AD)]).length = m + 1) := (by show _ = _; rw [List.length_append, HN.out]; rfl); rw [HMM.out])
        have hfar : ∀ k, Value.ownBlock (.slice X xs.length x) = some k → B ≤ k ∧ k ≠ g := fun k hk => by have := HOb.out.far (n := xs.length) k hk; omega
        have HRc : Hid (Rd wc B g A len cap qb) := (HRb.out.alloc _).grown hgc hfar
        have HGc : Hid (w.grownBy wc (some g)) := ⟨hbc.os.trans HGb.out.os, hbc.tape.trans HGb.out.tape, hbc.output.trans HGb.out.output, Nat.le_trans hwb (by have := hbc.size; simp at this; omega), fun i hi hn => (hbc.block i (by omega)).trans ((Below.heap_alloc _ _ i (by omega)).trans (HGb.out.block i hi hn))⟩
        have HOc := Lib.hid hoc
        clear hA hoc hgc hbc hfar
        go_wp2
        go_ret
        exact ⟨Y, y, xs ++ [⟨ap, ab⟩], qb, by rw [HMM.out]; first | done | rfl, HOc.out, by rw [HMM.out]; omega, by omega, HRc.out, HGc.out⟩
      · have hzi : ((z : Int) == 0) = false := by rw [beq_eq_false_iff_ne]; omega
        go_wp2
        go_ret
        exact ⟨X, x, xs, q + 1, by rw [HN.out]; first | done | rfl, HOa.out, by rw [HN.out]; omega, by omega, HRa.out, HGa.out⟩

end Go.Proofs.Ytccadanhadakkaa
