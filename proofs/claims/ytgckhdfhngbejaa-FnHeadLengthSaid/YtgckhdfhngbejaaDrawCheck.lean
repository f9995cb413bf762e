/- Contract of DrawHeadCheck: a number and a head, each number from -1 to 997; nothing that was there is changed. Condition: the code's bytes lie in memory. -/
import Derived.Test.YtgckhdfhngbejaaMade
import Derived.Test.YtgckhdfhngbejaaDrawSecret
import Derived.Test.YtgckhdfhngbejaaIn
namespace Go.Proofs.Ytgckhdfhngbejaa
open Go.RowKit
set_option linter.unusedVariables false

theorem In.alloc {w : World} {A : Option Addr} {len cap : Nat} (h : In w A len cap) (o : Obj) : In (w.alloc o) A len cap :=
  ⟨fun k hk => by
    obtain ⟨b, o', z, hA, hb, hc, h0, h1⟩ := h.bytes k hk
    exact ⟨b, o', z, hA, by simp; omega, (World.cell?_of_block (a := ⟨b, o' + k, none⟩) (Below.heap_alloc w o b hb)).trans hc, h0, h1⟩, h.le, h.most⟩
theorem Blk.frozen {w : World} {g : Nat} {t : TypeId} {cs : Array Value} (h : Blk w g t cs) (i : Nat) : w.frozen? ⟨g, i, none⟩ = false := by
  unfold Blk at h
  simp [World.frozen?, h]

/-- What a draw of a number and a head hands back. -/
def HeadDrawn (w : World) (e : Ending) (w' : World) : Prop :=
  ∃ p l d s : Int, -1 ≤ p ∧ p ≤ 997 ∧ -1 ≤ l ∧ l ≤ 18 ∧ -1 ≤ d ∧ d ≤ 991 ∧ -1 ≤ s ∧ s ≤ 997 ∧ e = .returned (.tuple #[.int .i64 p, headV l d s]) ∧ Below w.heap.size w w'

set_option maxHeartbeats 4000000 in
set_option maxRecDepth 100000 in
theorem drawcheck_any (A : Option Addr) (len cap : Nat) (w : World) (hI : In w A len cap) :
    Calls Try.prog 19 #[.slice A len cap] w (HeadDrawn w) := by
  have HI := Lib.hid hI
  clear hI
  go_enter Try.func19, Try.ntmps19
  go_wp2_with fail
  refine (open_any A len cap _ (HI.out.alloc _)).mono ?_
  rintro e w1 ⟨len', cap', rfl, hR1, hb1⟩
  simp only [World.size_alloc] at hR1 hb1 ⊢
  have HR1 := Lib.hid hR1
  have HZ1 : Hid (Blk w1 w.heap.size 27 #[.int .i64 0, .int .i64 0, .int .i64 0]) := (Blk.new w 27 #[.int .i64 0, .int .i64 0, .int .i64 0]).below hb1 (by omega)
  have HB1 : Hid (Below w.heap.size w w1) := ((Below.refl _ w).alloc (Nat.le_refl _) _).trans (hb1.mono (by omega))
  clear hR1 hb1
  go_wp2_with fail
  refine (drawsec_any HR1.out (by omega)).mono ?_
  rintro e w2 ⟨s, p2, hs1, hs2, hp2, rfl, hR2, hb2, hg2⟩
  have HR2 := Lib.hid hR2
  have HZ2 : Hid (Blk w2 w.heap.size 27 #[.int .i64 0, .int .i64 0, .int .i64 0]) := HZ1.out.below hb2 (by omega)
  have HB2 : Hid (Below w.heap.size w w2) := HB1.out.trans (hb2.mono (by omega))
  clear hR2 hb2 hg2
  go_wp2_with fail
  refine (leavesdraw_any HR2.out (by omega)).mono ?_
  rintro e w3 ⟨X, c, zs, p3, rfl, hl, hp3, hD⟩
  obtain ⟨b, hX⟩ := hD.some_
  subst hX
  have HD := Lib.hid hD
  have HZ3 : Hid (Blk w3 w.heap.size 27 #[.int .i64 0, .int .i64 0, .int .i64 0]) := HZ2.out.below hD.below (by omega)
  have HB3 : Hid (Below w.heap.size w w3) := HB2.out.trans (hD.below.mono (by omega))
  clear hD
  go_wp2_with fail
  refine (smake_any s zs b 0 c _ HD.out.own.ints HD.out.own.le.1 HD.out.own.le.2).mono ?_
  rintro e w4 ⟨rfl, hb4⟩
  obtain ⟨⟨l0, l1⟩, ⟨d0, d1⟩, t0, t1⟩ := made_bd s zs
  obtain ⟨l, Hl⟩ : ∃ l, Hid (madeL s zs = l) := ⟨_, rfl⟩
  obtain ⟨d, Hd⟩ : ∃ d, Hid (madeD s zs = d) := ⟨_, rfl⟩
  obtain ⟨t, Ht⟩ : ∃ t, Hid (madeS s zs = t) := ⟨_, rfl⟩
  obtain ⟨R, HR⟩ : ∃ R, Hid (madeOk s zs = R) := ⟨_, rfl⟩
  rw [Hl.out] at l0 l1 ⊢
  rw [Hd.out] at d0 d1 ⊢
  rw [Ht.out] at t0 t1 ⊢
  rw [HR.out]
  have hz0 : w.heap.size < w3.heap.size := HZ3.out.lt
  have hz4 : w3.heap.size ≤ w4.heap.size := hb4.size
  have hgw : w.heap.size + 1 < w4.heap.size := by have := HD.out.rd.lt; omega
  have HR4 := Lib.hid ((HD.out.rd.grown (grown_of_below hb4 none) (fun k hk => by cases hk)).alloc (.cells #[.int .i64 l, .int .i64 d, .int .i64 t] 27))
  have HZ4 := Lib.hid ((HZ3.out.below hb4 hz0).alloc (.cells #[.int .i64 l, .int .i64 d, .int .i64 t] 27))
  have HB4 : Hid (Below w.heap.size w (w4.alloc (.cells #[.int .i64 l, .int .i64 d, .int .i64 t] 27))) := (HB3.out.trans (hb4.mono (by omega))).alloc (by omega) _
  have HK4 := Lib.hid (Blk.new w4 27 #[.int .i64 l, .int .i64 d, .int .i64 t])
  clear hb4
  go_wp2_with fail
  refine (spublic_any s _).mono ?_
  rintro e w' ⟨rfl, rfl⟩
  obtain ⟨q0, q1⟩ := publicOr_any s
  obtain ⟨p, HP⟩ : ∃ p, Hid (publicOr s = p) := ⟨_, rfl⟩
  rw [HP.out] at q0 q1 ⊢
  go_wp2_with fail
  refine (pick_any 8 HR4.out (by omega) (by omega) (by omega)).mono ?_
  rintro e w5 ⟨x, hx, rfl, hR5, hg5, hz5⟩
  have HR5 := Lib.hid hR5
  have HZ5 := Lib.hid (HZ4.out.grown hg5 (fun e => by injection e with e; omega))
  have HK5 := Lib.hid (HK4.out.grown hg5 (fun e => by injection e with e; omega))
  have HB5 : Hid (Below w.heap.size w w5) := HB4.out.grown hg5 (by simp; omega) (fun k hk => by injection hk with hk; omega)
  clear hR5 hg5 hz5
  by_cases hx0 : x = 0
  · subst hx0
    go_wp2_with fail
    refine (drawsec_any HR5.out (by omega)).mono ?_
    rintro e w6 ⟨y, p6, hy1, hy2, hp6, rfl, hR6, hb6, hg6⟩
    have HZV : Hid (Blk (w6) w.heap.size 27 #[.int .i64 0, .int .i64 0, .int .i64 0]) := HZ5.out.below hb6 (by omega)
    have HKV : Hid (Blk (w6) w4.heap.size 27 #[.int .i64 (l), .int .i64 (d), .int .i64 (t)]) := HK5.out.grown hg6 (fun e => by injection e with e; omega)
    have HBV : Hid (Below w.heap.size w (w6)) := HB5.out.trans (hb6.mono (by omega))
    obtain ⟨V, HV⟩ : ∃ V, Hid (w6 = V) := ⟨_, rfl⟩
    rw [HV.out] at HZV HKV HBV
    have k0 : V.cell? ⟨w4.heap.size, 0, none⟩ = some (.int .i64 (l)) := HKV.out.cell 0
    have k1 : V.cell? ⟨w4.heap.size, 1, none⟩ = some (.int .i64 (d)) := HKV.out.cell 1
    have k2 : V.cell? ⟨w4.heap.size, 2, none⟩ = some (.int .i64 (t)) := HKV.out.cell 2
    have z0 : V.cell? ⟨w.heap.size, 0, none⟩ = some (.int .i64 0) := HZV.out.cell 0
    have z1 : V.cell? ⟨w.heap.size, 1, none⟩ = some (.int .i64 0) := HZV.out.cell 1
    have z2 : V.cell? ⟨w.heap.size, 2, none⟩ = some (.int .i64 0) := HZV.out.cell 2
    have y0 : V.frozen? ⟨w.heap.size, 0, none⟩ = false := HZV.out.frozen 0
    have y1 : V.frozen? ⟨w.heap.size, 1, none⟩ = false := HZV.out.frozen 1
    have y2 : V.frozen? ⟨w.heap.size, 2, none⟩ = false := HZV.out.frozen 2
    go_wp2_with fail
    rw [HV.out]
    go_region
    go_wp2
    have hblk : Blk (((V.setCell ⟨w.heap.size, 0, none⟩ (.int .i64 (l))).setCell ⟨w.heap.size, 1, none⟩ (.int .i64 (d))).setCell ⟨w.heap.size, 2, none⟩ (.int .i64 (t))) w.heap.size 27 #[.int .i64 (l), .int .i64 (d), .int .i64 (t)] := ((HZV.out.setOwn 0 (.int .i64 (l))).setOwn 1 (.int .i64 (d))).setOwn 2 (.int .i64 (t))
    have hbel : Below w.heap.size w (((V.setCell ⟨w.heap.size, 0, none⟩ (.int .i64 (l))).setCell ⟨w.heap.size, 1, none⟩ (.int .i64 (d))).setCell ⟨w.heap.size, 2, none⟩ (.int .i64 (t))).drew := below_drew (((HBV.out.setCell (p := ⟨w.heap.size, 0, none⟩) (Nat.le_refl _) _).setCell (p := ⟨w.heap.size, 1, none⟩) (Nat.le_refl _) _).setCell (p := ⟨w.heap.size, 2, none⟩) (Nat.le_refl _) _)
    obtain ⟨W, HW⟩ : ∃ W, Hid ((((V.setCell ⟨w.heap.size, 0, none⟩ (.int .i64 (l))).setCell ⟨w.heap.size, 1, none⟩ (.int .i64 (d))).setCell ⟨w.heap.size, 2, none⟩ (.int .i64 (t))).drew = W) := ⟨_, rfl⟩
    have hblkW : Blk W w.heap.size 27 #[.int .i64 (l), .int .i64 (d), .int .i64 (t)] := by rw [← HW.out]; exact hblk
    rw [HW.out] at hbel ⊢
    have c0 : W.cell? ⟨w.heap.size, 0, none⟩ = some (.int .i64 (l)) := hblkW.cell 0
    have c1 : W.cell? ⟨w.heap.size, 1, none⟩ = some (.int .i64 (d)) := hblkW.cell 1
    have c2 : W.cell? ⟨w.heap.size, 2, none⟩ = some (.int .i64 (t)) := hblkW.cell 2
    exact bodyPost_ret (v := .tuple #[.int .i64 (y), headV (l) (d) (t)]) (by simp [results, Try.results19, go_sem, c0, c1, c2]) rfl ⟨_, _, _, _, by omega, by omega, by omega, by omega, by omega, by omega, by omega, by omega, rfl, hbel⟩
  · have hx0' : ((x : Int) == 0) = false := by simp; omega
    by_cases hx1 : x = 1
    · subst hx1
      go_wp2_with fail
      refine (drawdig_any HR5.out (by omega)).mono ?_
      rintro e w6 ⟨y, p6, hy1, hy2, hp6, rfl, hR6, hb6, hg6⟩
      have HK6 : Hid (Blk w6 w4.heap.size 27 #[.int .i64 l, .int .i64 d, .int .i64 t]) := HK5.out.grown hg6 (fun e => by injection e with e; omega)
      have r0 : w6.cell? ⟨w4.heap.size, 1, none⟩ = some (.int .i64 d) := HK6.out.cell 1
      have r1 : w6.frozen? ⟨w4.heap.size, 1, none⟩ = false := HK6.out.frozen 1
      have HZV : Hid (Blk (w6.setCell ⟨w4.heap.size, 1, none⟩ (.int .i64 (y))) w.heap.size 27 #[.int .i64 0, .int .i64 0, .int .i64 0]) := (HZ5.out.below hb6 (by omega)).setOther (p := ⟨w4.heap.size, 1, none⟩) (by show w4.heap.size ≠ w.heap.size; omega) _
      have HKV : Hid (Blk (w6.setCell ⟨w4.heap.size, 1, none⟩ (.int .i64 (y))) w4.heap.size 27 #[.int .i64 (l), .int .i64 (y), .int .i64 (t)]) := HK6.out.setOwn 1 (.int .i64 (y))
      have HBV : Hid (Below w.heap.size w (w6.setCell ⟨w4.heap.size, 1, none⟩ (.int .i64 (y)))) := Below.setCell (p := ⟨w4.heap.size, 1, none⟩) (HB5.out.trans (hb6.mono (by omega))) (by show w.heap.size ≤ w4.heap.size; omega) _
      obtain ⟨V, HV⟩ : ∃ V, Hid (w6.setCell ⟨w4.heap.size, 1, none⟩ (.int .i64 (y)) = V) := ⟨_, rfl⟩
      rw [HV.out] at HZV HKV HBV
      have k0 : V.cell? ⟨w4.heap.size, 0, none⟩ = some (.int .i64 (l)) := HKV.out.cell 0
      have k1 : V.cell? ⟨w4.heap.size, 1, none⟩ = some (.int .i64 (y)) := HKV.out.cell 1
      have k2 : V.cell? ⟨w4.heap.size, 2, none⟩ = some (.int .i64 (t)) := HKV.out.cell 2
      have z0 : V.cell? ⟨w.heap.size, 0, none⟩ = some (.int .i64 0) := HZV.out.cell 0
      have z1 : V.cell? ⟨w.heap.size, 1, none⟩ = some (.int .i64 0) := HZV.out.cell 1
      have z2 : V.cell? ⟨w.heap.size, 2, none⟩ = some (.int .i64 0) := HZV.out.cell 2
      have y0 : V.frozen? ⟨w.heap.size, 0, none⟩ = false := HZV.out.frozen 0
      have y1 : V.frozen? ⟨w.heap.size, 1, none⟩ = false := HZV.out.frozen 1
      have y2 : V.frozen? ⟨w.heap.size, 2, none⟩ = false := HZV.out.frozen 2
      go_wp2_with fail
      rw [HV.out]
      go_region
      go_wp2
      have hblk : Blk (((V.setCell ⟨w.heap.size, 0, none⟩ (.int .i64 (l))).setCell ⟨w.heap.size, 1, none⟩ (.int .i64 (y))).setCell ⟨w.heap.size, 2, none⟩ (.int .i64 (t))) w.heap.size 27 #[.int .i64 (l), .int .i64 (y), .int .i64 (t)] := ((HZV.out.setOwn 0 (.int .i64 (l))).setOwn 1 (.int .i64 (y))).setOwn 2 (.int .i64 (t))
      have hbel : Below w.heap.size w (((V.setCell ⟨w.heap.size, 0, none⟩ (.int .i64 (l))).setCell ⟨w.heap.size, 1, none⟩ (.int .i64 (y))).setCell ⟨w.heap.size, 2, none⟩ (.int .i64 (t))).drew := below_drew (((HBV.out.setCell (p := ⟨w.heap.size, 0, none⟩) (Nat.le_refl _) _).setCell (p := ⟨w.heap.size, 1, none⟩) (Nat.le_refl _) _).setCell (p := ⟨w.heap.size, 2, none⟩) (Nat.le_refl _) _)
      obtain ⟨W, HW⟩ : ∃ W, Hid ((((V.setCell ⟨w.heap.size, 0, none⟩ (.int .i64 (l))).setCell ⟨w.heap.size, 1, none⟩ (.int .i64 (y))).setCell ⟨w.heap.size, 2, none⟩ (.int .i64 (t))).drew = W) := ⟨_, rfl⟩
      have hblkW : Blk W w.heap.size 27 #[.int .i64 (l), .int .i64 (y), .int .i64 (t)] := by rw [← HW.out]; exact hblk
      rw [HW.out] at hbel ⊢
      have c0 : W.cell? ⟨w.heap.size, 0, none⟩ = some (.int .i64 (l)) := hblkW.cell 0
      have c1 : W.cell? ⟨w.heap.size, 1, none⟩ = some (.int .i64 (y)) := hblkW.cell 1
      have c2 : W.cell? ⟨w.heap.size, 2, none⟩ = some (.int .i64 (t)) := hblkW.cell 2
      exact bodyPost_ret (v := .tuple #[.int .i64 (p), headV (l) (y) (t)]) (by simp [results, Try.results19, go_sem, c0, c1, c2]) rfl ⟨_, _, _, _, by omega, by omega, by omega, by omega, by omega, by omega, by omega, by omega, rfl, hbel⟩
    · have hx1' : ((x : Int) == 1) = false := by simp; omega
      by_cases hx2 : x = 2
      · subst hx2
        go_wp2_with fail
        refine (pick_any 19 HR5.out (by omega) (by omega) (by omega)).mono ?_
        rintro e w6 ⟨y, hy1, rfl, hR6, hg6, hz6⟩
        have hb6 : Below (w.heap.size + 1) w5 w6 := (Below.refl _ w5).grown hg6 (by have := HK5.out.lt; omega) (fun k hk => by injection hk with hk; omega)
        have HK6 : Hid (Blk w6 w4.heap.size 27 #[.int .i64 l, .int .i64 d, .int .i64 t]) := HK5.out.grown hg6 (fun e => by injection e with e; omega)
        have r0 : w6.cell? ⟨w4.heap.size, 0, none⟩ = some (.int .i64 l) := HK6.out.cell 0
        have r1 : w6.frozen? ⟨w4.heap.size, 0, none⟩ = false := HK6.out.frozen 0
        have HZV : Hid (Blk (w6.setCell ⟨w4.heap.size, 0, none⟩ (.int .i64 ((y : Int) - 1))) w.heap.size 27 #[.int .i64 0, .int .i64 0, .int .i64 0]) := (HZ5.out.below hb6 (by omega)).setOther (p := ⟨w4.heap.size, 0, none⟩) (by show w4.heap.size ≠ w.heap.size; omega) _
        have HKV : Hid (Blk (w6.setCell ⟨w4.heap.size, 0, none⟩ (.int .i64 ((y : Int) - 1))) w4.heap.size 27 #[.int .i64 ((y : Int) - 1), .int .i64 (d), .int .i64 (t)]) := HK6.out.setOwn 0 (.int .i64 ((y : Int) - 1))
        have HBV : Hid (Below w.heap.size w (w6.setCell ⟨w4.heap.size, 0, none⟩ (.int .i64 ((y : Int) - 1)))) := Below.setCell (p := ⟨w4.heap.size, 0, none⟩) (HB5.out.trans (hb6.mono (by omega))) (by show w.heap.size ≤ w4.heap.size; omega) _
        obtain ⟨V, HV⟩ : ∃ V, Hid (w6.setCell ⟨w4.heap.size, 0, none⟩ (.int .i64 ((y : Int) - 1)) = V) := ⟨_, rfl⟩
        rw [HV.out] at HZV HKV HBV
        have k0 : V.cell? ⟨w4.heap.size, 0, none⟩ = some (.int .i64 ((y : Int) - 1)) := HKV.out.cell 0
        have k1 : V.cell? ⟨w4.heap.size, 1, none⟩ = some (.int .i64 (d)) := HKV.out.cell 1
        have k2 : V.cell? ⟨w4.heap.size, 2, none⟩ = some (.int .i64 (t)) := HKV.out.cell 2
        have z0 : V.cell? ⟨w.heap.size, 0, none⟩ = some (.int .i64 0) := HZV.out.cell 0
        have z1 : V.cell? ⟨w.heap.size, 1, none⟩ = some (.int .i64 0) := HZV.out.cell 1
        have z2 : V.cell? ⟨w.heap.size, 2, none⟩ = some (.int .i64 0) := HZV.out.cell 2
        have y0 : V.frozen? ⟨w.heap.size, 0, none⟩ = false := HZV.out.frozen 0
        have y1 : V.frozen? ⟨w.heap.size, 1, none⟩ = false := HZV.out.frozen 1
        have y2 : V.frozen? ⟨w.heap.size, 2, none⟩ = false := HZV.out.frozen 2
        go_wp2_with fail
        rw [HV.out]
        go_region
        go_wp2
        have hblk : Blk (((V.setCell ⟨w.heap.size, 0, none⟩ (.int .i64 ((y : Int) - 1))).setCell ⟨w.heap.size, 1, none⟩ (.int .i64 (d))).setCell ⟨w.heap.size, 2, none⟩ (.int .i64 (t))) w.heap.size 27 #[.int .i64 ((y : Int) - 1), .int .i64 (d), .int .i64 (t)] := ((HZV.out.setOwn 0 (.int .i64 ((y : Int) - 1))).setOwn 1 (.int .i64 (d))).setOwn 2 (.int .i64 (t))
        have hbel : Below w.heap.size w (((V.setCell ⟨w.heap.size, 0, none⟩ (.int .i64 ((y : Int) - 1))).setCell ⟨w.heap.size, 1, none⟩ (.int .i64 (d))).setCell ⟨w.heap.size, 2, none⟩ (.int .i64 (t))).drew := below_drew (((HBV.out.setCell (p := ⟨w.heap.size, 0, none⟩) (Nat.le_refl _) _).setCell (p := ⟨w.heap.size, 1, none⟩) (Nat.le_refl _) _).setCell (p := ⟨w.heap.size, 2, none⟩) (Nat.le_refl _) _)
        obtain ⟨W, HW⟩ : ∃ W, Hid ((((V.setCell ⟨w.heap.size, 0, none⟩ (.int .i64 ((y : Int) - 1))).setCell ⟨w.heap.size, 1, none⟩ (.int .i64 (d))).setCell ⟨w.heap.size, 2, none⟩ (.int .i64 (t))).drew = W) := ⟨_, rfl⟩
        have hblkW : Blk W w.heap.size 27 #[.int .i64 ((y : Int) - 1), .int .i64 (d), .int .i64 (t)] := by rw [← HW.out]; exact hblk
        rw [HW.out] at hbel ⊢
        have c0 : W.cell? ⟨w.heap.size, 0, none⟩ = some (.int .i64 ((y : Int) - 1)) := hblkW.cell 0
        have c1 : W.cell? ⟨w.heap.size, 1, none⟩ = some (.int .i64 (d)) := hblkW.cell 1
        have c2 : W.cell? ⟨w.heap.size, 2, none⟩ = some (.int .i64 (t)) := hblkW.cell 2
        exact bodyPost_ret (v := .tuple #[.int .i64 (p), headV ((y : Int) - 1) (d) (t)]) (by simp [results, Try.results19, go_sem, c0, c1, c2]) rfl ⟨_, _, _, _, by omega, by omega, by omega, by omega, by omega, by omega, by omega, by omega, rfl, hbel⟩
      · have hx2' : ((x : Int) == 2) = false := by simp; omega
        by_cases hx3 : x = 3
        · subst hx3
          go_wp2_with fail
          refine (drawsec_any HR5.out (by omega)).mono ?_
          rintro e w6 ⟨y, p6, hy1, hy2, hp6, rfl, hR6, hb6, hg6⟩
          have HK6 : Hid (Blk w6 w4.heap.size 27 #[.int .i64 l, .int .i64 d, .int .i64 t]) := HK5.out.grown hg6 (fun e => by injection e with e; omega)
          have r0 : w6.cell? ⟨w4.heap.size, 2, none⟩ = some (.int .i64 t) := HK6.out.cell 2
          have r1 : w6.frozen? ⟨w4.heap.size, 2, none⟩ = false := HK6.out.frozen 2
          have HZV : Hid (Blk (w6.setCell ⟨w4.heap.size, 2, none⟩ (.int .i64 (y))) w.heap.size 27 #[.int .i64 0, .int .i64 0, .int .i64 0]) := (HZ5.out.below hb6 (by omega)).setOther (p := ⟨w4.heap.size, 2, none⟩) (by show w4.heap.size ≠ w.heap.size; omega) _
          have HKV : Hid (Blk (w6.setCell ⟨w4.heap.size, 2, none⟩ (.int .i64 (y))) w4.heap.size 27 #[.int .i64 (l), .int .i64 (d), .int .i64 (y)]) := HK6.out.setOwn 2 (.int .i64 (y))
          have HBV : Hid (Below w.heap.size w (w6.setCell ⟨w4.heap.size, 2, none⟩ (.int .i64 (y)))) := Below.setCell (p := ⟨w4.heap.size, 2, none⟩) (HB5.out.trans (hb6.mono (by omega))) (by show w.heap.size ≤ w4.heap.size; omega) _
          obtain ⟨V, HV⟩ : ∃ V, Hid (w6.setCell ⟨w4.heap.size, 2, none⟩ (.int .i64 (y)) = V) := ⟨_, rfl⟩
          rw [HV.out] at HZV HKV HBV
          have k0 : V.cell? ⟨w4.heap.size, 0, none⟩ = some (.int .i64 (l)) := HKV.out.cell 0
          have k1 : V.cell? ⟨w4.heap.size, 1, none⟩ = some (.int .i64 (d)) := HKV.out.cell 1
          have k2 : V.cell? ⟨w4.heap.size, 2, none⟩ = some (.int .i64 (y)) := HKV.out.cell 2
          have z0 : V.cell? ⟨w.heap.size, 0, none⟩ = some (.int .i64 0) := HZV.out.cell 0
          have z1 : V.cell? ⟨w.heap.size, 1, none⟩ = some (.int .i64 0) := HZV.out.cell 1
          have z2 : V.cell? ⟨w.heap.size, 2, none⟩ = some (.int .i64 0) := HZV.out.cell 2
          have y0 : V.frozen? ⟨w.heap.size, 0, none⟩ = false := HZV.out.frozen 0
          have y1 : V.frozen? ⟨w.heap.size, 1, none⟩ = false := HZV.out.frozen 1
          have y2 : V.frozen? ⟨w.heap.size, 2, none⟩ = false := HZV.out.frozen 2
          go_wp2_with fail
          rw [HV.out]
          go_region
          go_wp2
          have hblk : Blk (((V.setCell ⟨w.heap.size, 0, none⟩ (.int .i64 (l))).setCell ⟨w.heap.size, 1, none⟩ (.int .i64 (d))).setCell ⟨w.heap.size, 2, none⟩ (.int .i64 (y))) w.heap.size 27 #[.int .i64 (l), .int .i64 (d), .int .i64 (y)] := ((HZV.out.setOwn 0 (.int .i64 (l))).setOwn 1 (.int .i64 (d))).setOwn 2 (.int .i64 (y))
          have hbel : Below w.heap.size w (((V.setCell ⟨w.heap.size, 0, none⟩ (.int .i64 (l))).setCell ⟨w.heap.size, 1, none⟩ (.int .i64 (d))).setCell ⟨w.heap.size, 2, none⟩ (.int .i64 (y))).drew := below_drew (((HBV.out.setCell (p := ⟨w.heap.size, 0, none⟩) (Nat.le_refl _) _).setCell (p := ⟨w.heap.size, 1, none⟩) (Nat.le_refl _) _).setCell (p := ⟨w.heap.size, 2, none⟩) (Nat.le_refl _) _)
          obtain ⟨W, HW⟩ : ∃ W, Hid ((((V.setCell ⟨w.heap.size, 0, none⟩ (.int .i64 (l))).setCell ⟨w.heap.size, 1, none⟩ (.int .i64 (d))).setCell ⟨w.heap.size, 2, none⟩ (.int .i64 (y))).drew = W) := ⟨_, rfl⟩
          have hblkW : Blk W w.heap.size 27 #[.int .i64 (l), .int .i64 (d), .int .i64 (y)] := by rw [← HW.out]; exact hblk
          rw [HW.out] at hbel ⊢
          have c0 : W.cell? ⟨w.heap.size, 0, none⟩ = some (.int .i64 (l)) := hblkW.cell 0
          have c1 : W.cell? ⟨w.heap.size, 1, none⟩ = some (.int .i64 (d)) := hblkW.cell 1
          have c2 : W.cell? ⟨w.heap.size, 2, none⟩ = some (.int .i64 (y)) := hblkW.cell 2
          exact bodyPost_ret (v := .tuple #[.int .i64 (p), headV (l) (d) (y)]) (by simp [results, Try.results19, go_sem, c0, c1, c2]) rfl ⟨_, _, _, _, by omega, by omega, by omega, by omega, by omega, by omega, by omega, by omega, rfl, hbel⟩
        · have hx3' : ((x : Int) == 3) = false := by simp; omega
          have HZV : Hid (Blk (w5) w.heap.size 27 #[.int .i64 0, .int .i64 0, .int .i64 0]) := HZ5.out
          have HKV : Hid (Blk (w5) w4.heap.size 27 #[.int .i64 (l), .int .i64 (d), .int .i64 (t)]) := HK5.out
          have HBV : Hid (Below w.heap.size w (w5)) := HB5.out
          obtain ⟨V, HV⟩ : ∃ V, Hid (w5 = V) := ⟨_, rfl⟩
          rw [HV.out] at HZV HKV HBV
          have k0 : V.cell? ⟨w4.heap.size, 0, none⟩ = some (.int .i64 (l)) := HKV.out.cell 0
          have k1 : V.cell? ⟨w4.heap.size, 1, none⟩ = some (.int .i64 (d)) := HKV.out.cell 1
          have k2 : V.cell? ⟨w4.heap.size, 2, none⟩ = some (.int .i64 (t)) := HKV.out.cell 2
          have z0 : V.cell? ⟨w.heap.size, 0, none⟩ = some (.int .i64 0) := HZV.out.cell 0
          have z1 : V.cell? ⟨w.heap.size, 1, none⟩ = some (.int .i64 0) := HZV.out.cell 1
          have z2 : V.cell? ⟨w.heap.size, 2, none⟩ = some (.int .i64 0) := HZV.out.cell 2
          have y0 : V.frozen? ⟨w.heap.size, 0, none⟩ = false := HZV.out.frozen 0
          have y1 : V.frozen? ⟨w.heap.size, 1, none⟩ = false := HZV.out.frozen 1
          have y2 : V.frozen? ⟨w.heap.size, 2, none⟩ = false := HZV.out.frozen 2
          go_wp2_with fail
          rw [HV.out]
          go_region
          go_wp2
          have hblk : Blk (((V.setCell ⟨w.heap.size, 0, none⟩ (.int .i64 (l))).setCell ⟨w.heap.size, 1, none⟩ (.int .i64 (d))).setCell ⟨w.heap.size, 2, none⟩ (.int .i64 (t))) w.heap.size 27 #[.int .i64 (l), .int .i64 (d), .int .i64 (t)] := ((HZV.out.setOwn 0 (.int .i64 (l))).setOwn 1 (.int .i64 (d))).setOwn 2 (.int .i64 (t))
          have hbel : Below w.heap.size w (((V.setCell ⟨w.heap.size, 0, none⟩ (.int .i64 (l))).setCell ⟨w.heap.size, 1, none⟩ (.int .i64 (d))).setCell ⟨w.heap.size, 2, none⟩ (.int .i64 (t))).drew := below_drew (((HBV.out.setCell (p := ⟨w.heap.size, 0, none⟩) (Nat.le_refl _) _).setCell (p := ⟨w.heap.size, 1, none⟩) (Nat.le_refl _) _).setCell (p := ⟨w.heap.size, 2, none⟩) (Nat.le_refl _) _)
          obtain ⟨W, HW⟩ : ∃ W, Hid ((((V.setCell ⟨w.heap.size, 0, none⟩ (.int .i64 (l))).setCell ⟨w.heap.size, 1, none⟩ (.int .i64 (d))).setCell ⟨w.heap.size, 2, none⟩ (.int .i64 (t))).drew = W) := ⟨_, rfl⟩
          have hblkW : Blk W w.heap.size 27 #[.int .i64 (l), .int .i64 (d), .int .i64 (t)] := by rw [← HW.out]; exact hblk
          rw [HW.out] at hbel ⊢
          have c0 : W.cell? ⟨w.heap.size, 0, none⟩ = some (.int .i64 (l)) := hblkW.cell 0
          have c1 : W.cell? ⟨w.heap.size, 1, none⟩ = some (.int .i64 (d)) := hblkW.cell 1
          have c2 : W.cell? ⟨w.heap.size, 2, none⟩ = some (.int .i64 (t)) := hblkW.cell 2
          exact bodyPost_ret (v := .tuple #[.int .i64 (p), headV (l) (d) (t)]) (by simp [results, Try.results19, go_sem, c0, c1, c2]) rfl ⟨_, _, _, _, by omega, by omega, by omega, by omega, by omega, by omega, by omega, by omega, rfl, hbel⟩

end Go.Proofs.Ytgckhdfhngbejaa
