/- Contract of the laws' sameJournal at equal journals, and of l91Record. Conditions: both journals lie in memory; the code's bytes lie in memory. -/
import Derived.Test.YtnllejialnkgnaaSJournal
import Derived.Test.YtnllejialnkgnaaBaseC
import Derived.Deep.QuietTactic
import Derived.BigQuiet
namespace Go.Proofs.Ytnllejialnkgnaa
open Go.RowKit Go.Conc
set_option linter.unusedVariables false

set_option maxHeartbeats 2000000 in
set_option maxRecDepth 100000 in
theorem sameJ_any (A : Option Addr) (c : Nat) (A1 : Option Addr) (c1 : Nat) (rs : List RD) (s : Int) (w : World) (hJ : JAt w w.heap.size A c rs) (hJ1 : JAt w w.heap.size A1 c1 rs) {n : Nat} (hn : rs.length = n) :
    Calls Try.prog 17 #[journalV A n c s, journalV A1 n c1 s] w fun e w' => e = .returned (.bool true) ∧ Below w.heap.size w w' := by
  have hmx := hJ.most
  have hle := hJ.le
  unfold maxLen at hmx
  rw [hn] at hle
  have HN := Lib.hid hn
  obtain ⟨W, HW⟩ : ∃ W, Hid ((w.alloc (.cells #[.slice A n c, .int .i64 s] 25)).alloc (.cells #[.slice A1 n c1, .int .i64 s] 25) = W) := ⟨_, rfl⟩
  have KA : Hid (Blk W w.heap.size 25 #[.slice A n c, .int .i64 s]) := by rw [← HW.out]; exact (Blk.new w _ _).alloc _
  have KB : Hid (Blk W (w.heap.size + 1) 25 #[.slice A1 n c1, .int .i64 s]) := by
    rw [← HW.out]
    have h := Blk.new (w.alloc (.cells #[.slice A n c, .int .i64 s] 25)) 25 #[.slice A1 n c1, .int .i64 s]
    rw [World.size_alloc] at h
    exact h
  have HB : Hid (Below w.heap.size w W) := by rw [← HW.out]; exact ((Below.refl _ w).alloc (Nat.le_refl _) _).alloc (by simp) _
  have HJ : Hid (JAt W W.heap.size A c rs) := hJ.belowS HB.out
  have HJ1 : Hid (JAt W W.heap.size A1 c1 rs) := hJ1.belowS HB.out
  clear hJ hJ1 hn
  obtain ⟨a0, a1⟩ := jr_cells KA.out
  obtain ⟨b0, b1⟩ := jr_cells KB.out
  go_enter Try.func17, Try.ntmps17
  go_upto_region 1 with fail
  rw [HW.out]
  go_wp2
  go_loopw [5] (fun i w' => ∃ k : Nat, k ≤ n ∧ i = .int .i64 k ∧ ∃ q, w' = W.drewN q) (fun i _ => n - (intOf i).toNat)
  case atStart => exact ⟨0, Nat.zero_le _, rfl, 0, rfl⟩
  case round =>
    obtain ⟨k, hk, rfl, q, rfl⟩ := hrel
    by_cases hlt : k < n
    · have hkz : k < rs.length := by rw [HN.out]; exact hlt
      obtain ⟨b, o, rfl⟩ := HJ.out.row.some_ (by omega)
      obtain ⟨b', o', rfl⟩ := HJ1.out.row.some_ (by omega)
      obtain ⟨c0, d0⟩ := rec_cells HJ.out.row k hkz
      obtain ⟨c0', d0'⟩ := rec_cells HJ1.out.row k hkz
      obtain ⟨ri, HRI⟩ : ∃ x, Hid ((rth rs k).i = x) := ⟨_, rfl⟩
      obtain ⟨rt, HRT⟩ : ∃ x, Hid ((rth rs k).t = x) := ⟨_, rfl⟩
      rw [HRI.out] at c0 c0'
      rw [HRT.out] at d0 d0'
      have hk0 : (0 : Int) ≤ (k : Int) := by omega
      have hki : (k : Int) < (n : Int) := by omega
      clear hkz
      go_wp2_with fail
      go_quiet (fail)
      go_wp2
      go_roundw
      case rel => exact ⟨k + 1, by omega, by go_num, _, rfl⟩
      case measure => simp [intOf]; omega
    · go_wp2
      go_ret
      exact ⟨rfl, below_drewN HB.out _⟩

theorem grown_setNew {w W : World} {row : Option Nat} (h : w.grownBy W row) (p : Addr) (hp : w.heap.size ≤ p.block) (v : Value) : w.grownBy (W.setCell p v) row :=
  ⟨h.os, h.tape, h.output, by simpa using h.size, fun i hi hn => (Below.heap_setCell W p v i (by omega)).trans (h.block i hi hn)⟩
def RecDrawn (w : World) (B g : Nat) (A : Option Addr) (len cap p : Nat) (e : Ending) (w' : World) : Prop :=
  ∃ (r : RD) (p' : Nat), e = .returned (recV r) ∧ r.t.size ≤ 10 ∧ -1 ≤ r.i ∧ r.i ≤ 16 ∧ p' ≤ p + 17 ∧ Rd w' B g A len cap p' ∧ w.grownBy w' (some g)

set_option maxHeartbeats 2000000 in
set_option maxRecDepth 100000 in
theorem drawrec_any {B g len cap p : Nat} {A : Option Addr} {w : World} (hR : Rd w B g A len cap p) (hp : p ≤ 90000) :
    Calls Try.prog 38 #[.pointer (some ⟨g, 0, none⟩)] w (RecDrawn w B g A len cap p) := by
  have HR := Lib.hid (hR.alloc (.cells #[.int .i64 0, .string ByteArray.empty] 36))
  have hB := hR.big
  have hgl := hR.lt
  have KZ := Lib.hid (Blk.new w 36 #[.int .i64 0, .string ByteArray.empty])
  have HG := Lib.hid (grown_of_alloc w (.cells #[.int .i64 0, .string ByteArray.empty] 36) (some g))
  clear hR
  go_enter Try.func38, Try.ntmps38
  go_wp2_with fail
  refine (pick_any 10 HR.out (by omega) (by omega) (by omega)).mono ?_
  rintro e w1 ⟨x, hx, rfl, hR1, hg1, hz1⟩
  have HR1 := Lib.hid hR1
  have KZ1 := Lib.hid (KZ.out.grown hg1 (fun e => by injection e with e; omega))
  have HG1 : Hid (w.grownBy w1 (some g)) := World.grownBy.trans HG.out hg1
  clear hR1 hg1 hz1
  go_wp2_with fail
  refine (drawtext_any HR1.out (by omega)).mono ?_
  rintro e w2 ⟨t, p2, ht, hp2, rfl, hR2, hg2⟩
  have HR2 := Lib.hid hR2
  have KZ2 := Lib.hid (KZ1.out.grown hg2 (fun e => by injection e with e; omega))
  have HG2 : Hid (w.grownBy w2 (some g)) := World.grownBy.trans HG1.out hg2
  have hz2 : w.heap.size < w2.heap.size := KZ2.out.lt
  clear hR2 hg2
  obtain ⟨w3, HW3⟩ : ∃ Q0, Hid (w2.alloc (.cells #[.int .i64 (x : Int), .string t] 36) = Q0) := ⟨_, rfl⟩
  have HR3 : Hid (Rd w3 B g A len cap p2) := by rw [← HW3.out]; exact HR2.out.alloc _
  have KZ3 : Hid (Blk w3 w.heap.size 36 #[.int .i64 0, .string ByteArray.empty]) := by rw [← HW3.out]; exact KZ2.out.alloc _
  have KO3 : Hid (Blk w3 w2.heap.size 36 #[.int .i64 (x : Int), .string t]) := by rw [← HW3.out]; exact Blk.new w2 _ _
  have HG3 : Hid (w.grownBy w3 (some g)) := by rw [← HW3.out]; exact World.grownBy.trans HG2.out (grown_of_alloc w2 _ _)
  have hgz : g < w2.heap.size := HR2.out.lt
  go_wp2_with fail
  rw [HW3.out]
  obtain ⟨q3, hq3⟩ : ∃ q, q = p2 := ⟨_, rfl⟩
  rw [← hq3] at HR3
  refine (pick_any 24 HR3.out (by omega) (by omega) (by omega)).mono ?_
  rintro e w4 ⟨y, hy, rfl, hR4, hg4, hz4⟩
  obtain ⟨q4, hq4⟩ : ∃ q, q = q3 + 1 := ⟨_, rfl⟩
  rw [← hq4] at hR4
  have HR4 := Lib.hid hR4
  have KZ4 := Lib.hid (KZ3.out.grown hg4 (fun e => by injection e with e; omega))
  have KO4 := Lib.hid (KO3.out.grown hg4 (fun e => by injection e with e; omega))
  have HG4 : Hid (w.grownBy w4 (some g)) := World.grownBy.trans HG3.out hg4
  clear hR4 hg4 hz4
  have hzz4 : w2.heap.size < w4.heap.size := KO4.out.lt
  have hzz4a : w.heap.size < w4.heap.size := KZ4.out.lt
  by_cases hy0 : y = 0
  · subst hy0
    go_wp2_with fail
    refine (pick_any 2 HR4.out (by omega) (by omega) (by omega)).mono ?_
    rintro e w5 ⟨z, hz, rfl, hR5, hg5, hz5⟩
    obtain ⟨q5, hq5⟩ : ∃ q, q = q4 + 1 := ⟨_, rfl⟩
    rw [← hq5] at hR5
    have HR5 := Lib.hid hR5
    have KZ5 := Lib.hid (KZ4.out.grown hg5 (fun e => by injection e with e; omega))
    have KO5 := Lib.hid (KO4.out.grown hg5 (fun e => by injection e with e; omega))
    have HG5 : Hid (w.grownBy w5 (some g)) := World.grownBy.trans HG4.out hg5
    clear hR5 hg5 hz5
    have hzz5 : w2.heap.size < w5.heap.size := KO5.out.lt
    have hzz5a : w.heap.size < w5.heap.size := KZ5.out.lt
    have hm0 : (0 : Int) ≤ (z : Int) := by omega
    have hm1 : (z : Int) ≤ 2 := by omega
    obtain ⟨o0, o1⟩ := jr_cells KO5.out
    have of := blk_frozen KO5.out
    go_upto_region 4 with fail
    obtain ⟨w6, HW6⟩ : ∃ Q0, Hid (w5.setCell ⟨w2.heap.size, 0, none⟩ (.int .i64 ((z : Int) * 17 - 1)) = Q0) := ⟨_, rfl⟩
    have KO6 : Hid (Blk w6 w2.heap.size 36 #[.int .i64 ((z : Int) * 17 - 1), .string t]) := by rw [← HW6.out]; exact KO5.out.setOwn 0 _
    have KZ6 : Hid (Blk w6 w.heap.size 36 #[.int .i64 0, .string ByteArray.empty]) := by rw [← HW6.out]; exact KZ5.out.setOther (p := ⟨w2.heap.size, 0, none⟩) (by show w2.heap.size ≠ _; omega) _
    have HR6 : Hid (Rd w6 B g A len cap q5) := by rw [← HW6.out]; exact HR5.out.setOther (q := ⟨w2.heap.size, 0, none⟩) (by show B ≤ w2.heap.size; omega) (by show w2.heap.size ≠ g; omega) _
    have HG6 : Hid (w.grownBy w6 (some g)) := by rw [← HW6.out]; exact grown_setNew HG5.out ⟨w2.heap.size, 0, none⟩ (by show w.heap.size ≤ w2.heap.size; omega) _
    obtain ⟨q6, hq6⟩ : ∃ q, q = q5 := ⟨_, rfl⟩
    rw [← hq6] at HR6
    have hzz6 : w2.heap.size < w6.heap.size := KO6.out.lt
    rw [HW6.out]
    clear o0 o1 of
    obtain ⟨o0, o1⟩ := jr_cells KO6.out
    obtain ⟨z0, z1⟩ := jr_cells KZ6.out
    have zf := blk_frozen KZ6.out
    go_wp2
    obtain ⟨Y, HY⟩ : ∃ Q0, Hid ((w6.setCell ⟨w.heap.size, 0, none⟩ (.int .i64 ((z : Int) * 17 - 1))).setCell ⟨w.heap.size, 1, none⟩ (.string t) = Q0) := ⟨_, rfl⟩
    have KY : Hid (Blk Y w.heap.size 36 #[.int .i64 ((z : Int) * 17 - 1), .string t]) := by rw [← HY.out]; exact (KZ6.out.setOwn 0 _).setOwn 1 _
    have HRY : Hid (Rd Y B g A len cap q6) := by rw [← HY.out]; exact (HR6.out.setOther (q := ⟨w.heap.size, 0, none⟩) (by show B ≤ w.heap.size; omega) (by show w.heap.size ≠ g; omega) _).setOther (q := ⟨w.heap.size, 1, none⟩) (by show B ≤ w.heap.size; omega) (by show w.heap.size ≠ g; omega) _
    have HGY : Hid (w.grownBy Y (some g)) := by rw [← HY.out]; exact grown_setNew (grown_setNew HG6.out ⟨w.heap.size, 0, none⟩ (Nat.le_refl _) _) ⟨w.heap.size, 1, none⟩ (Nat.le_refl _) _
    rw [HY.out]
    obtain ⟨y0, y1⟩ := jr_cells KY.out
    exact bodyPost_ret (v := recV ⟨(z : Int) * 17 - 1, t⟩) (by simp [results, Try.results38, go_sem, y0, y1]) rfl ⟨⟨(z : Int) * 17 - 1, t⟩, q6, rfl, ht, (show -1 ≤ (z : Int) * 17 - 1 by omega), (show (z : Int) * 17 - 1 ≤ 16 by omega), by omega, HRY.out, HGY.out⟩
  · have hyi : ((y : Int) == 0) = false := by rw [beq_eq_false_iff_ne]; omega
    obtain ⟨o0, o1⟩ := jr_cells KO4.out
    obtain ⟨z0, z1⟩ := jr_cells KZ4.out
    have zf := blk_frozen KZ4.out
    go_wp2
    obtain ⟨Y, HY⟩ : ∃ Q0, Hid ((w4.setCell ⟨w.heap.size, 0, none⟩ (.int .i64 ((x : Int)))).setCell ⟨w.heap.size, 1, none⟩ (.string t) = Q0) := ⟨_, rfl⟩
    have KY : Hid (Blk Y w.heap.size 36 #[.int .i64 ((x : Int)), .string t]) := by rw [← HY.out]; exact (KZ4.out.setOwn 0 _).setOwn 1 _
    have HRY : Hid (Rd Y B g A len cap q4) := by rw [← HY.out]; exact (HR4.out.setOther (q := ⟨w.heap.size, 0, none⟩) (by show B ≤ w.heap.size; omega) (by show w.heap.size ≠ g; omega) _).setOther (q := ⟨w.heap.size, 1, none⟩) (by show B ≤ w.heap.size; omega) (by show w.heap.size ≠ g; omega) _
    have HGY : Hid (w.grownBy Y (some g)) := by rw [← HY.out]; exact grown_setNew (grown_setNew HG4.out ⟨w.heap.size, 0, none⟩ (Nat.le_refl _) _) ⟨w.heap.size, 1, none⟩ (Nat.le_refl _) _
    rw [HY.out]
    obtain ⟨y0, y1⟩ := jr_cells KY.out
    exact bodyPost_ret (v := recV ⟨(x : Int), t⟩) (by simp [results, Try.results38, go_sem, y0, y1]) rfl ⟨⟨(x : Int), t⟩, q4, rfl, ht, (show -1 ≤ (x : Int) by omega), (show (x : Int) ≤ 16 by omega), by omega, HRY.out, HGY.out⟩

end Go.Proofs.Ytnllejialnkgnaa
