/- Contracts of DrawWindowAsk, DrawWindowGot, DrawWindowDrop: requests in memory of the call's own, with a request and a bool, or with a peer; nothing that was there is changed. Condition: the code's bytes lie in memory. -/
import Derived.Test.YtccadanhadakkaaDrawWin
namespace Go.Proofs.Ytccadanhadakkaa
open Go.RowKit
set_option linter.unusedVariables false

def WAskDrawn (w : World) (e : Ending) (w' : World) : Prop :=
  ∃ (X : Option Addr) (c : Nat) (xs : List AD) (a : AD) (en : Bool), e = .returned (.tuple #[.slice X xs.length c, askV a, .bool en]) ∧ OwnRow AK w' w.heap.size X c xs ∧ xs.length ≤ 20 ∧ Below w.heap.size w w'
def WGotDrawn (w : World) (e : Ending) (w' : World) : Prop :=
  ∃ (X : Option Addr) (c : Nat) (xs : List AD) (a : AD), e = .returned (.tuple #[.slice X xs.length c, askV a]) ∧ OwnRow AK w' w.heap.size X c xs ∧ xs.length ≤ 20 ∧ Below w.heap.size w w'
def WDropDrawn (w : World) (e : Ending) (w' : World) : Prop :=
  ∃ (X : Option Addr) (c : Nat) (xs : List AD) (p : Int), e = .returned (.tuple #[.slice X xs.length c, .int .i64 p]) ∧ OwnRow AK w' w.heap.size X c xs ∧ xs.length ≤ 20 ∧ -10 ≤ p ∧ p ≤ 20 ∧ Below w.heap.size w w'

set_option maxHeartbeats 4000000 in
set_option maxRecDepth 100000 in
theorem drawWAsk_any (A : Option Addr) (len cap : Nat) (w : World) (hI : In w A len cap) :
    Calls Try.prog 6 #[.slice A len cap] w (WAskDrawn w) := by
  obtain ⟨W, HW⟩ : ∃ Q0, Hid ((w.alloc (.cells #[.int .i64 0, .int .i64 0] 25)) = Q0) := ⟨_, rfl⟩
  have HI : Hid (In W A len cap) := by rw [← HW.out]; exact in_allocA hI _
  have HB : Hid (Below w.heap.size w W) := by rw [← HW.out]; exact (Below.refl _ w).alloc (Nat.le_refl _) _
  have KR : Hid (Blk W w.heap.size 25 #[.int .i64 0, .int .i64 0]) := by rw [← HW.out]; exact Blk.new w _ _
  have hWz : w.heap.size < W.heap.size := KR.out.lt
  clear hI
  go_enter Try.func6, Try.ntmps6
  go_upto_region 1 with fail
  rw [HW.out]
  go_wp2_with fail
  refine (open_any A len cap _ HI.out).mono ?_
  rintro e w1 ⟨len', cap', rfl, hR1, hb1⟩
  have HR1 := Lib.hid hR1
  have KR1 := Lib.hid (KR.out.below hb1 KR.out.lt)
  have HB1 : Hid (Below w.heap.size w w1) := HB.out.trans (hb1.mono HB.out.size)
  clear hR1 hb1
  go_wp2_with fail
  refine (drawwin_any HR1.out (by omega)).mono ?_
  rintro e w2 ⟨X, c, xs, q2, rfl, ho2, hl, hq2, hR2, hg2⟩
  obtain ⟨n, HN⟩ : ∃ v, Hid (xs.length = v) := ⟨_, rfl⟩
  rw [HN.out] at hl ⊢
  have KR2 := Lib.hid (KR1.out.grown hg2 (fun e => by injection e with e; omega))
  have HR2 := Lib.hid hR2
  have HB2 : Hid (Below w.heap.size w w2) := HB1.out.grown hg2 HB1.out.size (fun i hi => by injection hi with hi; omega)
  have hz12 : W.heap.size < w1.heap.size := HR1.out.lt
  have hz2 : w1.heap.size ≤ w2.heap.size := hg2.size
  have HO2 := Lib.hid ho2
  clear ho2 hg2 hR2
  go_wp2_with fail
  refine (drawask_any HR2.out (by omega)).mono ?_
  rintro e w3 ⟨a, q3, rfl, hq3, hR3, hg3⟩
  obtain ⟨ap, ab⟩ := a
  have KR3 := Lib.hid (KR2.out.grown hg3 (fun e => by injection e with e; omega))
  have HR3 := Lib.hid hR3
  have HB3 : Hid (Below w.heap.size w w3) := HB2.out.grown hg3 HB2.out.size (fun i hi => by injection hi with hi; omega)
  have HO3 := Lib.hid (HO2.out.keep hg3 (fun i hi => by injection hi with hi; omega))
  clear hR3 hg3
  obtain ⟨w4, HW4⟩ : ∃ Q0, Hid (w3.alloc (.cells #[.int .i64 ap, .int .i64 ab] 25) = Q0) := ⟨_, rfl⟩
  have KJ4 : Hid (Blk w4 w3.heap.size 25 #[.int .i64 ap, .int .i64 ab]) := by rw [← HW4.out]; exact Blk.new w3 _ _
  have KR4 : Hid (Blk w4 w.heap.size 25 #[.int .i64 0, .int .i64 0]) := by rw [← HW4.out]; exact KR3.out.alloc _
  have HB4 : Hid (Below w.heap.size w w4) := by rw [← HW4.out]; exact HB3.out.alloc HB3.out.size _
  have HO4 : Hid (OwnRow AK w4 w1.heap.size X c xs) := by rw [← HW4.out]; exact HO3.out.alloc _
  have HR4 : Hid (Rd w4 W.heap.size W.heap.size A len' cap' q3) := by rw [← HW4.out]; exact HR3.out.alloc _
  have hz4 : w3.heap.size < w4.heap.size := KJ4.out.lt
  have hzw3 : W.heap.size < w3.heap.size := HR3.out.lt
  go_upto_region 4 with fail
  rw [HW4.out]
  (try go_wp2_with fail)
  refine wp_region_held_drew (S := (fun w' => w'.cell? ⟨w3.heap.size, 0, none⟩ = some (.int .i64 ap) ∧ w'.cell? ⟨w3.heap.size, 1, none⟩ = some (.int .i64 ab))) (by kernel_rfl) (ask2 KJ4.out) (fun hHeld => ?_)
  obtain ⟨U0, HU0⟩ : ∃ U, Hid (w4.drew = U) := ⟨_, rfl⟩
  have KJ0 : Hid (Blk U0 w3.heap.size 25 #[.int .i64 ap, .int .i64 ab]) := by rw [← HU0.out]; exact KJ4.out
  have KR0 : Hid (Blk U0 w.heap.size 25 #[.int .i64 0, .int .i64 0]) := by rw [← HU0.out]; exact KR4.out
  have HB0 : Hid (Below w.heap.size w U0) := by rw [← HU0.out]; exact below_drew HB4.out
  have HO0 : Hid (OwnRow AK U0 w1.heap.size X c xs) := by rw [← HU0.out]; exact HO4.out
  have HR0 : Hid (Rd U0 W.heap.size W.heap.size A len' cap' q3) := by rw [← HU0.out]; exact HR4.out.drew
  rw [HU0.out] at hHeld ⊢
  refine wpAnyH_take (i := 0) (v := ?zv31001) rfl (by kernel_rfl) (by kernel_rfl) (by kernel_rfl) (fun _ _ _ h => h) (Or.inl ⟨by kernel_rfl, ?zy31001⟩) (by assumption) ?zr31001
  case zy31001 => (intro w hSw; (try dsimp only at hSw); go_simp; try with_reducible rfl)
  change wpAnyH _ _ _ _ _ _ _ (Act.put _ (some 14) _) _
  simp only [Act.put, List.setIfInBounds_toArray, List.set_cons_zero, List.set_cons_succ]
  refine wpAnyH_take (i := 1) (v := ?zv31002) rfl (by kernel_rfl) (by kernel_rfl) (by kernel_rfl) (fun _ _ _ h => h) (Or.inl ⟨by kernel_rfl, ?zy31002⟩) (by assumption) ?zr31002
  case zy31002 => (intro w hSw; (try dsimp only at hSw); go_simp; try with_reducible rfl)
  change wpAnyH _ _ _ _ _ _ _ (Act.put _ (some 15) _) _
  simp only [Act.put, List.setIfInBounds_toArray, List.set_cons_zero, List.set_cons_succ]
  refine wpAnyH_take (i := 2) (v := ?zv31003) rfl (by kernel_rfl) (by kernel_rfl) (by kernel_rfl) (fun _ _ _ h => h) (Or.inl ⟨by kernel_rfl, ?zy31003⟩) (by assumption) ?zr31003
  case zy31003 => (intro w hSw; (try dsimp only at hSw); go_simp; try with_reducible rfl)
  change wpAnyH _ _ _ _ _ _ _ (Act.put _ (some 16) _) _
  simp only [Act.put, List.setIfInBounds_toArray, List.set_cons_zero, List.set_cons_succ]
  refine wpAnyH_ready (rs := [3]) (by kernel_rfl) (by simp) (AllReadyH.cons rfl (fun K hK => ?zo31004_0) AllReadyH.nil)
  case zo31004_0 =>
    go_simp
    go_at_call 19
    refine (pick_any 2 HR0.out (by omega) (by omega) (by omega)).mono ?_
    rintro e U1 ⟨z, hz, rfl, hR1, hg1, hzz1⟩
    have KR1 := Lib.hid (KR0.out.grown hg1 (fun e => by injection e with e; omega))
    have KJ1 := Lib.hid (KJ0.out.grown hg1 (fun e => by injection e with e; omega))
    have HB1 : Hid (Below w.heap.size w U1) := HB0.out.grown hg1 HB0.out.size (fun i hi => by injection hi with hi; omega)
    have HO1 := Lib.hid (HO0.out.keep hg1 (fun i hi => by injection hi with hi; omega))
    obtain ⟨en, hen⟩ : ∃ v, ((z : Int) == 0) = v := ⟨_, rfl⟩
    clear hR1 hg1 hzz1
    refine hK.out _ _ (ask2 KJ1.out) (fun hHeld => ?_)
    clear hK K
    (try simp only [Act.put, List.setIfInBounds_toArray, List.set_cons_zero, List.set_cons_succ])
    refine wpAnyH_take (i := 4) (v := ?zv31005) rfl (by kernel_rfl) (by kernel_rfl) (by kernel_rfl) (fun _ _ _ h => h) (Or.inl ⟨by kernel_rfl, ?zy31005⟩) (by assumption) ?zr31005
    case zy31005 => (intro w hSw; (try dsimp only at hSw); go_simp; try with_reducible rfl)
    change wpAnyH _ _ _ _ _ _ _ (Act.put _ (some 18) _) _
    simp only [Act.put, List.setIfInBounds_toArray, List.set_cons_zero, List.set_cons_succ]
    refine wpAnyH_take (i := 5) (v := ?zv31006) rfl (by kernel_rfl) (by kernel_rfl) (by kernel_rfl) (fun _ _ _ h => h) (Or.inl ⟨by kernel_rfl, ?zy31006⟩) (by assumption) ?zr31006
    case zy31006 => (intro w hSw; (try dsimp only at hSw); go_simp; try with_reducible rfl)
    change wpAnyH _ _ _ _ _ _ _ (Act.put _ (some 2) _) _
    simp only [Act.put, List.setIfInBounds_toArray, List.set_cons_zero, List.set_cons_succ]
    refine wpAnyH_ready (rs := [6]) (by kernel_rfl) (by simp) (AllReadyH.cons rfl (fun K hK => ?zo31007_0) AllReadyH.nil)
    case zo31007_0 =>
      go_simp
      obtain ⟨n0, n1⟩ := ask2 KR1.out
      have nf := blk_frozen KR1.out
      obtain ⟨U2, HU2⟩ : ∃ Q0, Hid ((U1.setCell ⟨w.heap.size, 0, none⟩ (.int .i64 ap)).setCell ⟨w.heap.size, 1, none⟩ (.int .i64 ab) = Q0) := ⟨_, rfl⟩
      have KR2 : Hid (Blk U2 w.heap.size 25 #[.int .i64 ap, .int .i64 ab]) := by rw [← HU2.out]; exact (KR1.out.setOwn 0 _).setOwn 1 _
      have HO2 : Hid (OwnRow AK U2 w1.heap.size X c xs) := by rw [← HU2.out]; exact own_set2 HO1.out (by omega) _ _
      have HB2 : Hid (Below w.heap.size w U2) := by rw [← HU2.out]; exact below_set2 HB1.out (Nat.le_refl _) _ _
      have KJ2 : Hid (Blk U2 w3.heap.size 25 #[.int .i64 ap, .int .i64 ab]) := by rw [← HU2.out]; exact (KJ1.out.setOther (p := ⟨w.heap.size, 0, none⟩) (by show w.heap.size ≠ w3.heap.size; omega) _).setOther (p := ⟨w.heap.size, 1, none⟩) (by show w.heap.size ≠ w3.heap.size; omega) _
      go_simp
      rw [HU2.out]
      refine hK.out _ _ (ask2 KJ2.out) (fun hHeld => ?_)
      clear hK K
      (try simp only [Act.put])
      clear n0 n1 nf
      refine wpAnyH_take (i := 7) (v := ?zv31008) rfl (by kernel_rfl) (by kernel_rfl) (by kernel_rfl) (fun _ _ _ h => h) (Or.inl ⟨by kernel_rfl, ?zy31008⟩) (by assumption) ?zr31008
      case zy31008 => (intro w hSw; (try dsimp only at hSw); go_simp; try with_reducible rfl)
      change wpAnyH _ _ _ _ _ _ _ (Act.put _ (some 4) _) _
      simp only [Act.put, List.setIfInBounds_toArray, List.set_cons_zero, List.set_cons_succ]
      refine wpAnyH_done (by kernel_rfl) ?_ _
      go_wp2
      obtain ⟨y0, y1⟩ := ask2 KR2.out
      exact bodyPost_ret (v := .tuple #[.slice X n c, askV ⟨ap, ab⟩, .bool en]) (by simp [results, Try.results6, go_sem, y0, y1]) rfl ⟨X, c, xs, ⟨ap, ab⟩, en, by rw [HN.out], HO2.out.base_le (by omega), by rw [HN.out]; exact hl, HB2.out⟩

set_option maxHeartbeats 4000000 in
set_option maxRecDepth 100000 in
theorem drawWGot_any (A : Option Addr) (len cap : Nat) (w : World) (hI : In w A len cap) :
    Calls Try.prog 11 #[.slice A len cap] w (WGotDrawn w) := by
  obtain ⟨W, HW⟩ : ∃ Q0, Hid ((w.alloc (.cells #[.int .i64 0, .int .i64 0] 25)) = Q0) := ⟨_, rfl⟩
  have HI : Hid (In W A len cap) := by rw [← HW.out]; exact in_allocA hI _
  have HB : Hid (Below w.heap.size w W) := by rw [← HW.out]; exact (Below.refl _ w).alloc (Nat.le_refl _) _
  have KR : Hid (Blk W w.heap.size 25 #[.int .i64 0, .int .i64 0]) := by rw [← HW.out]; exact Blk.new w _ _
  have hWz : w.heap.size < W.heap.size := KR.out.lt
  clear hI
  go_enter Try.func11, Try.ntmps11
  go_upto_region 1 with fail
  rw [HW.out]
  go_wp2_with fail
  refine (open_any A len cap _ HI.out).mono ?_
  rintro e w1 ⟨len', cap', rfl, hR1, hb1⟩
  have HR1 := Lib.hid hR1
  have KR1 := Lib.hid (KR.out.below hb1 KR.out.lt)
  have HB1 : Hid (Below w.heap.size w w1) := HB.out.trans (hb1.mono HB.out.size)
  clear hR1 hb1
  go_wp2_with fail
  refine (drawwin_any HR1.out (by omega)).mono ?_
  rintro e w2 ⟨X, c, xs, q2, rfl, ho2, hl, hq2, hR2, hg2⟩
  obtain ⟨n, HN⟩ : ∃ v, Hid (xs.length = v) := ⟨_, rfl⟩
  rw [HN.out] at hl ⊢
  have KR2 := Lib.hid (KR1.out.grown hg2 (fun e => by injection e with e; omega))
  have HR2 := Lib.hid hR2
  have HB2 : Hid (Below w.heap.size w w2) := HB1.out.grown hg2 HB1.out.size (fun i hi => by injection hi with hi; omega)
  have hz12 : W.heap.size < w1.heap.size := HR1.out.lt
  have hz2 : w1.heap.size ≤ w2.heap.size := hg2.size
  have HO2 := Lib.hid ho2
  clear ho2 hg2 hR2
  by_cases hn0 : n = 0
  · subst hn0
    go_wp2_with fail
    refine (drawask_any HR2.out (by omega)).mono ?_
    rintro e w9 ⟨a, q9, rfl, hq9, hR9, hg9⟩
    obtain ⟨ap, ab⟩ := a
    have KR9 := Lib.hid (KR2.out.grown hg9 (fun e => by injection e with e; omega))
    have HR9 := Lib.hid hR9
    have HB9 : Hid (Below w.heap.size w w9) := HB2.out.grown hg9 HB2.out.size (fun i hi => by injection hi with hi; omega)
    have HO9 := Lib.hid (HO2.out.keep hg9 (fun i hi => by injection hi with hi; omega))
    clear hR9 hg9
    obtain ⟨z0, z1⟩ := ask2 KR9.out
    have zf := blk_frozen KR9.out
    go_wp2
    obtain ⟨Y, HY⟩ : ∃ Q0, Hid ((w9.setCell ⟨w.heap.size, 0, none⟩ (.int .i64 ap)).setCell ⟨w.heap.size, 1, none⟩ (.int .i64 ab) = Q0) := ⟨_, rfl⟩
    have KY : Hid (Blk Y w.heap.size 25 #[.int .i64 ap, .int .i64 ab]) := by rw [← HY.out]; exact (KR9.out.setOwn 0 _).setOwn 1 _
    have HOY : Hid (OwnRow AK Y w1.heap.size X c xs) := by rw [← HY.out]; exact own_set2 HO9.out (by omega) _ _
    have HBY : Hid (Below w.heap.size w Y) := by rw [← HY.out]; exact below_set2 HB9.out (Nat.le_refl _) _ _
    rw [HY.out]
    obtain ⟨y0, y1⟩ := ask2 KY.out
    exact bodyPost_ret (v := .tuple #[.slice X 0 c, askV ⟨ap, ab⟩]) (by simp [results, Try.results11, go_sem, y0, y1]) rfl ⟨X, c, xs, ⟨ap, ab⟩, by rw [HN.out], HOY.out.base_le (by omega), by rw [HN.out]; exact hl, HBY.out⟩
  · have hnp : (0 : Int) < (n : Int) := by omega
    go_wp2_with fail
    refine (pick_any 5 HR2.out (by omega) (by omega) (by omega)).mono ?_
    rintro e w3 ⟨z, hz, rfl, hR3, hg3, hz3⟩
    have KR3 := Lib.hid (KR2.out.grown hg3 (fun e => by injection e with e; omega))
    have HR3 := Lib.hid hR3
    have HB3 : Hid (Below w.heap.size w w3) := HB2.out.grown hg3 HB2.out.size (fun i hi => by injection hi with hi; omega)
    have HO3 := Lib.hid (HO2.out.keep hg3 (fun i hi => by injection hi with hi; omega))
    clear hR3 hg3
    clear hz3
    by_cases hz0 : z = 0
    · subst hz0
      go_wp2_with fail
      refine (drawask_any HR3.out (by omega)).mono ?_
      rintro e w9 ⟨a, q9, rfl, hq9, hR9, hg9⟩
      obtain ⟨ap, ab⟩ := a
      have KR9 := Lib.hid (KR3.out.grown hg9 (fun e => by injection e with e; omega))
      have HR9 := Lib.hid hR9
      have HB9 : Hid (Below w.heap.size w w9) := HB3.out.grown hg9 HB3.out.size (fun i hi => by injection hi with hi; omega)
      have HO9 := Lib.hid (HO3.out.keep hg9 (fun i hi => by injection hi with hi; omega))
      clear hR9 hg9
      obtain ⟨z0, z1⟩ := ask2 KR9.out
      have zf := blk_frozen KR9.out
      go_wp2
      obtain ⟨Y, HY⟩ : ∃ Q0, Hid ((w9.setCell ⟨w.heap.size, 0, none⟩ (.int .i64 ap)).setCell ⟨w.heap.size, 1, none⟩ (.int .i64 ab) = Q0) := ⟨_, rfl⟩
      have KY : Hid (Blk Y w.heap.size 25 #[.int .i64 ap, .int .i64 ab]) := by rw [← HY.out]; exact (KR9.out.setOwn 0 _).setOwn 1 _
      have HOY : Hid (OwnRow AK Y w1.heap.size X c xs) := by rw [← HY.out]; exact own_set2 HO9.out (by omega) _ _
      have HBY : Hid (Below w.heap.size w Y) := by rw [← HY.out]; exact below_set2 HB9.out (Nat.le_refl _) _ _
      rw [HY.out]
      obtain ⟨y0, y1⟩ := ask2 KY.out
      exact bodyPost_ret (v := .tuple #[.slice X n c, askV ⟨ap, ab⟩]) (by simp [results, Try.results11, go_sem, y0, y1]) rfl ⟨X, c, xs, ⟨ap, ab⟩, by rw [HN.out], HOY.out.base_le (by omega), by rw [HN.out]; exact hl, HBY.out⟩
    · have hzp : (0 : Int) < (z : Int) := by omega
      obtain ⟨b, o, rfl⟩ := HO3.out.at_.some_ (by rw [HN.out]; omega)
      go_upto_region 4 with fail
      (try go_wp2_with fail)
      refine wp_region_held_drew (S := (fun _ => True)) (by kernel_rfl) (trivial) (fun hHeld => ?_)
      obtain ⟨U0, HU0⟩ : ∃ U, Hid (w3.drew = U) := ⟨_, rfl⟩
      have KR0 : Hid (Blk U0 w.heap.size 25 #[.int .i64 0, .int .i64 0]) := by rw [← HU0.out]; exact KR3.out
      have HB0 : Hid (Below w.heap.size w U0) := by rw [← HU0.out]; exact below_drew HB3.out
      have HO0 : Hid (OwnRow AK U0 w1.heap.size (some ⟨b, o, none⟩) c xs) := by rw [← HU0.out]; exact HO3.out
      have HR0 : Hid (Rd U0 W.heap.size W.heap.size A len' cap' (q2 + 1)) := by rw [← HU0.out]; exact HR3.out.drew
      rw [HU0.out]
      refine wpAnyH_take (i := 0) (v := ?zv31009) rfl (by kernel_rfl) (by kernel_rfl) (by kernel_rfl) (fun _ _ _ h => h) (Or.inl ⟨by kernel_rfl, ?zy31009⟩) (by assumption) ?zr31009
      case zy31009 => (intro w hSw; (try dsimp only at hSw); go_simp; try with_reducible rfl)
      change wpAnyH _ _ _ _ _ _ _ (Act.put _ (some 18) _) _
      simp only [Act.put, List.setIfInBounds_toArray, List.set_cons_zero, List.set_cons_succ]
      refine wpAnyH_take (i := 1) (v := ?zv31010) rfl (by kernel_rfl) (by kernel_rfl) (by kernel_rfl) (fun _ _ _ h => h) (Or.inl ⟨by kernel_rfl, ?zy31010⟩) (by assumption) ?zr31010
      case zy31010 => (intro w hSw; (try dsimp only at hSw); go_simp; try with_reducible rfl)
      change wpAnyH _ _ _ _ _ _ _ (Act.put _ (some 19) _) _
      simp only [Act.put, List.setIfInBounds_toArray, List.set_cons_zero, List.set_cons_succ]
      refine wpAnyH_take (i := 2) (v := ?zv31011) rfl (by kernel_rfl) (by kernel_rfl) (by kernel_rfl) (fun _ _ _ h => h) (Or.inl ⟨by kernel_rfl, ?zy31011⟩) (by assumption) ?zr31011
      case zy31011 => (intro w hSw; (try dsimp only at hSw); go_simp; try with_reducible rfl)
      change wpAnyH _ _ _ _ _ _ _ (Act.put _ (some 20) _) _
      simp only [Act.put, List.setIfInBounds_toArray, List.set_cons_zero, List.set_cons_succ]
      refine wpAnyH_take (i := 3) (v := ?zv31012) rfl (by kernel_rfl) (by kernel_rfl) (by kernel_rfl) (fun _ _ _ h => h) (Or.inl ⟨by kernel_rfl, ?zy31012⟩) (by assumption) ?zr31012
      case zy31012 => (intro w hSw; (try dsimp only at hSw); go_simp; try with_reducible rfl)
      change wpAnyH _ _ _ _ _ _ _ (Act.put _ (some 21) _) _
      simp only [Act.put, List.setIfInBounds_toArray, List.set_cons_zero, List.set_cons_succ]
      refine wpAnyH_take (i := 4) (v := ?zv31013) rfl (by kernel_rfl) (by kernel_rfl) (by kernel_rfl) (fun _ _ _ h => h) (Or.inl ⟨by kernel_rfl, ?zy31013⟩) (by assumption) ?zr31013
      case zy31013 => (intro w hSw; (try dsimp only at hSw); go_simp; try with_reducible rfl)
      change wpAnyH _ _ _ _ _ _ _ (Act.put _ (some 22) _) _
      simp only [Act.put, List.setIfInBounds_toArray, List.set_cons_zero, List.set_cons_succ]
      refine wpAnyH_ready (rs := [5]) (by kernel_rfl) (by simp) (AllReadyH.cons rfl (fun K hK => ?zo31014_0) AllReadyH.nil)
      case zo31014_0 =>
        go_simp
        go_at_call 19
        refine (pick_any (n : Int) HR0.out (by omega) (by omega) (by omega)).mono ?_
        rintro e U1 ⟨u, hu, rfl, hR1, hg1, hzz1⟩
        have KR1 := Lib.hid (KR0.out.grown hg1 (fun e => by injection e with e; omega))
        have HB1 : Hid (Below w.heap.size w U1) := HB0.out.grown hg1 HB0.out.size (fun i hi => by injection hi with hi; omega)
        have HO1 := Lib.hid (HO0.out.keep hg1 (fun i hi => by injection hi with hi; omega))
        clear hR1 hg1 hzz1
        have hun : u < xs.length := by rw [HN.out]; omega
        have hu0 : (0 : Int) ≤ (u : Int) := by omega
        obtain ⟨ap, HAP⟩ : ∃ v, Hid ((ath xs u).p = v) := ⟨_, rfl⟩
        obtain ⟨ab, HAB⟩ : ∃ v, Hid ((ath xs u).b = v) := ⟨_, rfl⟩
        obtain ⟨c0, c1⟩ := ask_cells HO1.out.at_ u hun
        rw [HAP.out] at c0
        rw [HAB.out] at c1
        clear hun
        refine hK.out _ _ (trivial) (fun hHeld => ?_)
        clear hK K
        (try simp only [Act.put, List.setIfInBounds_toArray, List.set_cons_zero, List.set_cons_succ])
        refine wpAnyH_take (i := 6) (v := ?zv31015) rfl (by kernel_rfl) (by kernel_rfl) (by kernel_rfl) (fun _ _ _ h => h) (Or.inl ⟨by kernel_rfl, ?zy31015⟩) (by assumption) ?zr31015
        case zy31015 => (intro w hSw; (try dsimp only at hSw); go_simp; try with_reducible rfl)
        change wpAnyH _ _ _ _ _ _ _ (Act.put _ (some 24) _) _
        simp only [Act.put, List.setIfInBounds_toArray, List.set_cons_zero, List.set_cons_succ]
        refine wpAnyH_take (i := 8) (v := ?zv31016) rfl (by kernel_rfl) (by kernel_rfl) (by kernel_rfl) (fun _ _ _ h => h) (Or.inl ⟨by kernel_rfl, ?zy31016⟩) (by assumption) ?zr31016
        case zy31016 => (intro w hSw; (try dsimp only at hSw); go_simp; try with_reducible rfl)
        change wpAnyH _ _ _ _ _ _ _ (Act.put _ (some 2) _) _
        simp only [Act.put, List.setIfInBounds_toArray, List.set_cons_zero, List.set_cons_succ]
        refine wpAnyH_ready (rs := [7]) (by kernel_rfl) (by simp) (AllReadyH.cons rfl (fun K hK => ?zo31017_0) AllReadyH.nil)
        case zo31017_0 =>
          go_simp
          refine hK.out _ _ (trivial) (fun hHeld => ?_)
          clear hK K
          (try simp only [Act.put, List.setIfInBounds_toArray, List.set_cons_zero, List.set_cons_succ])
          have KR2 := KR1
          have HB2 := HB1
          have HO2 := HO1
          refine wpAnyH_ready (rs := [9]) (by kernel_rfl) (by simp) (AllReadyH.cons rfl (fun K hK => ?zo31018_0) AllReadyH.nil)
          case zo31018_0 =>
            go_simp
            obtain ⟨n0, n1⟩ := ask2 KR2.out
            have nf := blk_frozen KR2.out
            obtain ⟨U3, HU3⟩ : ∃ Q0, Hid ((U1.setCell ⟨w.heap.size, 0, none⟩ (.int .i64 ap)).setCell ⟨w.heap.size, 1, none⟩ (.int .i64 ab) = Q0) := ⟨_, rfl⟩
            have KR3 : Hid (Blk U3 w.heap.size 25 #[.int .i64 ap, .int .i64 ab]) := by rw [← HU3.out]; exact (KR2.out.setOwn 0 _).setOwn 1 _
            have HO3 : Hid (OwnRow AK U3 w1.heap.size (some ⟨b, o, none⟩) c xs) := by rw [← HU3.out]; exact own_set2 HO2.out (by omega) _ _
            have HB3 : Hid (Below w.heap.size w U3) := by rw [← HU3.out]; exact below_set2 HB2.out (Nat.le_refl _) _ _
            go_simp
            rw [HU3.out]
            refine hK.out _ _ (trivial) (fun hHeld => ?_)
            clear hK K
            (try simp only [Act.put])
            clear n0 n1 nf
            refine wpAnyH_done (by kernel_rfl) ?_ _
            go_wp2
            obtain ⟨y0, y1⟩ := ask2 KR3.out
            exact bodyPost_ret (v := .tuple #[.slice (some ⟨b, o, none⟩) n c, askV ⟨ap, ab⟩]) (by simp [results, Try.results11, go_sem, y0, y1]) rfl ⟨some ⟨b, o, none⟩, c, xs, ⟨ap, ab⟩, by rw [HN.out], HO3.out.base_le (by omega), by rw [HN.out]; exact hl, HB3.out⟩



end Go.Proofs.Ytccadanhadakkaa
