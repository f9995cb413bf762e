/- Contracts of DrawJournalAdd, DrawJournalSync, DrawJournalCrash: a journal in memory of the call's own, with a record or a number; nothing that was there is changed. Condition: the code's bytes lie in memory. -/
import Derived.Test.YtnllejialnkgnaaDrawJournal
import Derived.Test.YtnllejialnkgnaaBaseA
namespace Go.Proofs.Ytnllejialnkgnaa
open Go.RowKit Go.Conc
set_option linter.unusedVariables false

theorem in_alloc {w : World} {A : Option Addr} {len cap : Nat} (h : In w A len cap) (o : Obj) : In (w.alloc o) A len cap :=
  ⟨fun k hk => by
    obtain ⟨b, o', z, hA, hb, hc, h0, h1⟩ := h.bytes k hk
    exact ⟨b, o', z, hA, by simp; omega, (World.cell?_of_block (a := ⟨b, o' + k, none⟩) (Below.heap_alloc w o b hb)).trans hc, h0, h1⟩, h.le, h.most⟩
def JAddDrawn (w : World) (e : Ending) (w' : World) : Prop :=
  ∃ (X : Option Addr) (c : Nat) (rs : List RD) (s : Int) (r : RD), e = .returned (.tuple #[journalV X rs.length c s, recV r]) ∧ OwnRow RK w' w.heap.size X c rs ∧ FitR rs ∧ rs.length ≤ 31 ∧ -1 ≤ s ∧ s ≤ 30 ∧ r.t.size ≤ 10 ∧ -1 ≤ r.i ∧ r.i ≤ 16 ∧ Below w.heap.size w w'
def JSyncDrawn (w : World) (e : Ending) (w' : World) : Prop :=
  ∃ (X : Option Addr) (c : Nat) (rs : List RD) (s : Int), e = .returned (journalV X rs.length c s) ∧ OwnRow RK w' w.heap.size X c rs ∧ FitR rs ∧ rs.length ≤ 31 ∧ -1 ≤ s ∧ s ≤ 30 ∧ Below w.heap.size w w'
def JNumDrawn (w : World) (e : Ending) (w' : World) : Prop :=
  ∃ (X : Option Addr) (c : Nat) (rs : List RD) (s : Int) (m : Int), e = .returned (.tuple #[journalV X rs.length c s, .int .i64 m]) ∧ OwnRow RK w' w.heap.size X c rs ∧ FitR rs ∧ rs.length ≤ 31 ∧ -1 ≤ s ∧ s ≤ 30 ∧ -100 ≤ m ∧ m ≤ 100 ∧ Below w.heap.size w w'



set_option maxHeartbeats 4000000 in
set_option maxRecDepth 100000 in
theorem drawJAdd_any (A : Option Addr) (len cap : Nat) (w : World) (hI : In w A len cap) :
    Calls Try.prog 14 #[.slice A len cap] w (JAddDrawn w) := by
  obtain ⟨W, HW⟩ : ∃ Q0, Hid (((w.alloc (.cells #[.slice none 0 0, .int .i64 0] 25)).alloc (.cells #[.int .i64 0, .string ⟨#[]⟩] 36)) = Q0) := ⟨_, rfl⟩
  have HI : Hid (In W A len cap) := by rw [← HW.out]; exact in_alloc (in_alloc hI _) _
  have KR : Hid (Blk W w.heap.size 25 #[.slice none 0 0, .int .i64 0]) := by rw [← HW.out]; exact (Blk.new w _ _).alloc _
  have KQ : Hid (Blk W (w.heap.size + 1) 36 #[.int .i64 0, .string ByteArray.empty]) := by
    rw [← HW.out]
    have h := Blk.new (w.alloc (.cells #[.slice none 0 0, .int .i64 0] 25)) 36 #[.int .i64 0, .string ByteArray.empty]
    rw [World.size_alloc] at h
    exact h
  have HB : Hid (Below w.heap.size w W) := by rw [← HW.out]; exact ((Below.refl _ w).alloc (Nat.le_refl _) _).alloc (by simp) _
  have hWz : w.heap.size < W.heap.size := KR.out.lt
  clear hI
  go_enter Try.func14, Try.ntmps14
  go_upto_region 1 with fail
  rw [HW.out]
  go_wp2_with fail
  refine (open_any A len cap _ HI.out).mono ?_
  rintro e w1 ⟨len', cap', rfl, hR1, hb1⟩
  have HR1 := Lib.hid hR1
  have KR1 := Lib.hid (KR.out.below hb1 KR.out.lt)
  have KQ1 := Lib.hid (KQ.out.below hb1 KQ.out.lt)
  have HB1 : Hid (Below w.heap.size w w1) := HB.out.trans (hb1.mono HB.out.size)
  clear hR1 hb1
  go_wp2_with fail
  refine (drawjournal_any HR1.out (by omega)).mono ?_
  rintro e w2 ⟨X, c, rs, s, q2, rfl, ho2, hf, hl, hs0, hs1, hq2, hR2, hg2⟩
  obtain ⟨n, HN⟩ : ∃ v, Hid (rs.length = v) := ⟨_, rfl⟩
  rw [HN.out] at hl ⊢
  have HR2 := Lib.hid hR2
  have KR2 := Lib.hid (KR1.out.grown hg2 (fun e => by injection e with e; omega))
  have hWq : w.heap.size + 1 < W.heap.size := KQ.out.lt
  have KQ2 := Lib.hid (KQ1.out.grown hg2 (fun e => by injection e with e; omega))
  have HB2 : Hid (Below w.heap.size w w2) := HB1.out.grown hg2 HB1.out.size (fun i hi => by injection hi with hi; omega)
  have hz12 : W.heap.size < w1.heap.size := HR1.out.lt
  have hz2 : w1.heap.size ≤ w2.heap.size := hg2.size
  have HO2 := Lib.hid ho2
  have HF := Lib.hid hf
  clear ho2 hg2 hR2 hf
  go_wp2_with fail
  obtain ⟨w3, HW3⟩ : ∃ Q0, Hid (w2.alloc (.cells #[.slice X n c, .int .i64 s] 25) = Q0) := ⟨_, rfl⟩
  have KJ3 : Hid (Blk w3 w2.heap.size 25 #[.slice X n c, .int .i64 s]) := by rw [← HW3.out]; exact Blk.new w2 _ _
  have KR3 : Hid (Blk w3 w.heap.size 25 #[.slice none 0 0, .int .i64 0]) := by rw [← HW3.out]; exact KR2.out.alloc _
  have HB3 : Hid (Below w.heap.size w w3) := by rw [← HW3.out]; exact HB2.out.alloc HB2.out.size _
  have HO3 : Hid (OwnRow RK w3 w1.heap.size X c rs) := by rw [← HW3.out]; exact HO2.out.alloc _
  have HR3 : Hid (Rd w3 W.heap.size W.heap.size A len' cap' q2) := by rw [← HW3.out]; exact HR2.out.alloc _
  have hz3 : w2.heap.size < w3.heap.size := KJ3.out.lt
  rw [HW3.out]
  have KQ3 : Hid (Blk w3 (w.heap.size + 1) 36 #[.int .i64 0, .string ByteArray.empty]) := by rw [← HW3.out]; exact KQ2.out.alloc _
  (try go_wp2_with fail)
  refine wp_region_held_drew (S := (fun w' => w'.cell? ⟨w2.heap.size, 0, none⟩ = some (.slice X n c) ∧ w'.cell? ⟨w2.heap.size, 1, none⟩ = some (.int .i64 s))) (by kernel_rfl) (jr_cells KJ3.out) (fun hHeld => ?_)
  obtain ⟨U0, HU0⟩ : ∃ U, Hid (w3.drew = U) := ⟨_, rfl⟩
  have KJ0 : Hid (Blk U0 w2.heap.size 25 #[.slice X n c, .int .i64 s]) := by rw [← HU0.out]; exact KJ3.out
  have KR0 : Hid (Blk U0 w.heap.size 25 #[.slice none 0 0, .int .i64 0]) := by rw [← HU0.out]; exact KR3.out
  have HB0 : Hid (Below w.heap.size w U0) := by rw [← HU0.out]; exact below_drew HB3.out
  have HO0 : Hid (OwnRow RK U0 w1.heap.size X c rs) := by rw [← HU0.out]; exact HO3.out
  have HR0 : Hid (Rd U0 W.heap.size W.heap.size A len' cap' q2) := by rw [← HU0.out]; exact HR3.out.drew
  have KQ0 : Hid (Blk U0 (w.heap.size + 1) 36 #[.int .i64 0, .string ByteArray.empty]) := by rw [← HU0.out]; exact KQ3.out
  rw [HU0.out] at hHeld ⊢
  refine wpAnyH_take (i := 0) (v := ?zv1) rfl (by kernel_rfl) (by kernel_rfl) (by kernel_rfl) (fun _ _ _ h => h) (Or.inl ⟨by kernel_rfl, ?zy1⟩) (by assumption) ?zr1
  case zy1 => (intro w hSw; (try dsimp only at hSw); go_simp; try with_reducible rfl)
  change wpAnyH _ _ _ _ _ _ _ (Act.put _ (some 10) _) _
  simp only [Act.put, List.setIfInBounds_toArray, List.set_cons_zero, List.set_cons_succ]
  refine wpAnyH_take (i := 1) (v := ?zv2) rfl (by kernel_rfl) (by kernel_rfl) (by kernel_rfl) (fun _ _ _ h => h) (Or.inl ⟨by kernel_rfl, ?zy2⟩) (by assumption) ?zr2
  case zy2 => (intro w hSw; (try dsimp only at hSw); go_simp; try with_reducible rfl)
  change wpAnyH _ _ _ _ _ _ _ (Act.put _ (some 11) _) _
  simp only [Act.put, List.setIfInBounds_toArray, List.set_cons_zero, List.set_cons_succ]
  refine wpAnyH_ready (rs := [2]) (by kernel_rfl) (by simp) (AllReadyH.cons rfl (fun K hK => ?zo3_0) AllReadyH.nil)
  case zo3_0 =>
    go_simp
    go_at_call 38
    refine (drawrec_any HR0.out (by omega)).mono ?_
    rintro e U1 ⟨rr, qr, rfl, hrt, hri0, hri1, hqr, hR1, hg1⟩
    obtain ⟨ri, rt⟩ := rr
    have KR1 := Lib.hid (KR0.out.grown hg1 (fun e => by injection e with e; omega))
    have KJ1 := Lib.hid (KJ0.out.grown hg1 (fun e => by injection e with e; omega))
    have KQ1 := Lib.hid (KQ0.out.grown hg1 (fun e => by injection e with e; omega))
    have HB1 : Hid (Below w.heap.size w U1) := HB0.out.grown hg1 HB0.out.size (fun i hi => by injection hi with hi; omega)
    have HO1 := Lib.hid (HO0.out.keep hg1 (fun i hi => by injection hi with hi; omega))
    have HR1 := Lib.hid hR1
    clear hR1 hg1
    refine hK.out _ _ (jr_cells KJ1.out) (fun hHeld => ?_)
    clear hK K
    (try simp only [Act.put, List.setIfInBounds_toArray, List.set_cons_zero, List.set_cons_succ])
    refine wpAnyH_ready (rs := [3]) (by kernel_rfl) (by simp) (AllReadyH.cons rfl (fun K hK => ?zo4_0) AllReadyH.nil)
    case zo4_0 =>
      go_simp
      obtain ⟨n0, n1⟩ := jr_cells KR1.out
      have nf := blk_frozen KR1.out
      obtain ⟨U2, HU2⟩ : ∃ Q0, Hid ((U1.setCell ⟨w.heap.size, 0, none⟩ (.slice X n c)).setCell ⟨w.heap.size, 1, none⟩ (.int .i64 s) = Q0) := ⟨_, rfl⟩
      have KR2 : Hid (Blk U2 w.heap.size 25 #[.slice X n c, .int .i64 s]) := by rw [← HU2.out]; exact blk_two KR1.out _ _
      have KQ2 : Hid (Blk U2 (w.heap.size + 1) 36 #[.int .i64 0, .string ByteArray.empty]) := by rw [← HU2.out]; exact (KQ1.out.setOther (p := ⟨w.heap.size, 0, none⟩) (by show w.heap.size ≠ w.heap.size + 1; omega) _).setOther (p := ⟨w.heap.size, 1, none⟩) (by show w.heap.size ≠ w.heap.size + 1; omega) _
      have HO2 : Hid (OwnRow RK U2 w1.heap.size X c rs) := by rw [← HU2.out]; exact rown_two HO1.out KR1.out _ _
      have KJ2 : Hid (Blk U2 w2.heap.size 25 #[.slice X n c, .int .i64 s]) := by rw [← HU2.out]; exact (KJ1.out.setOther (p := ⟨w.heap.size, 0, none⟩) (by show w.heap.size ≠ w2.heap.size; omega) _).setOther (p := ⟨w.heap.size, 1, none⟩) (by show w.heap.size ≠ w2.heap.size; omega) _
      have HB2 : Hid (Below w.heap.size w U2) := by rw [← HU2.out]; exact below_two HB1.out (by omega) _ _
      have HR2 : True := trivial
      go_simp
      rw [HU2.out]
      refine hK.out _ _ (jr_cells KJ2.out) (fun hHeld => ?_)
      clear hK K
      (try simp only [Act.put])
      clear n0 n1 nf
      refine wpAnyH_ready (rs := [4]) (by kernel_rfl) (by simp) (AllReadyH.cons rfl (fun K hK => ?zo5_0) AllReadyH.nil)
      case zo5_0 =>
        go_simp
        obtain ⟨n0, n1⟩ := jr_cells KQ2.out
        have nf := blk_frozen KQ2.out
        obtain ⟨U3, HU3⟩ : ∃ Q0, Hid ((U2.setCell ⟨w.heap.size + 1, 0, none⟩ (.int .i64 ri)).setCell ⟨w.heap.size + 1, 1, none⟩ (.string rt) = Q0) := ⟨_, rfl⟩
        have KQ3 : Hid (Blk U3 (w.heap.size + 1) 36 #[.int .i64 ri, .string rt]) := by rw [← HU3.out]; exact blk_two KQ2.out _ _
        have KR3 : Hid (Blk U3 w.heap.size 25 #[.slice X n c, .int .i64 s]) := by rw [← HU3.out]; exact (KR2.out.setOther (p := ⟨w.heap.size + 1, 0, none⟩) (by show w.heap.size + 1 ≠ w.heap.size; omega) _).setOther (p := ⟨w.heap.size + 1, 1, none⟩) (by show w.heap.size + 1 ≠ w.heap.size; omega) _
        have HO3 : Hid (OwnRow RK U3 w1.heap.size X c rs) := by rw [← HU3.out]; exact rown_block HO2.out fun y hy => (Below.heap_setCell _ ⟨w.heap.size + 1, 1, none⟩ _ y (by have h := (HO2.out.far (n := rs.length) y (by rw [hy]; rfl)); show y ≠ w.heap.size + 1; omega)).trans (Below.heap_setCell _ ⟨w.heap.size + 1, 0, none⟩ _ y (by have h := (HO2.out.far (n := rs.length) y (by rw [hy]; rfl)); show y ≠ w.heap.size + 1; omega))
        have KJ3 : Hid (Blk U3 w2.heap.size 25 #[.slice X n c, .int .i64 s]) := by rw [← HU3.out]; exact (KJ2.out.setOther (p := ⟨w.heap.size + 1, 0, none⟩) (by show w.heap.size + 1 ≠ w2.heap.size; omega) _).setOther (p := ⟨w.heap.size + 1, 1, none⟩) (by show w.heap.size + 1 ≠ w2.heap.size; omega) _
        have HB3 : Hid (Below w.heap.size w U3) := by rw [← HU3.out]; exact below_two HB2.out (by omega) _ _
        have HR3 : True := trivial
        go_simp
        rw [HU3.out]
        refine hK.out _ _ (jr_cells KJ3.out) (fun hHeld => ?_)
        clear hK K
        (try simp only [Act.put])
        clear n0 n1 nf
        refine wpAnyH_done (by kernel_rfl) ?_ _
        go_wp2
        obtain ⟨y0, y1⟩ := jr_cells KR3.out
        obtain ⟨y2, y3⟩ := jr_cells KQ3.out
        exact bodyPost_ret (v := .tuple #[journalV X n c s, recV ⟨ri, rt⟩]) (by simp [results, Try.results14, go_sem, y0, y1, y2, y3]) rfl ⟨X, c, rs, s, ⟨ri, rt⟩, by rw [HN.out], HO3.out.base_le (by omega), HF.out, by rw [HN.out]; exact hl, hs0, hs1, hrt, hri0, hri1, HB3.out⟩

set_option maxHeartbeats 4000000 in
set_option maxRecDepth 100000 in
theorem drawJCrash_any (A : Option Addr) (len cap : Nat) (w : World) (hI : In w A len cap) :
    Calls Try.prog 18 #[.slice A len cap] w (JNumDrawn w) := by
  obtain ⟨W, HW⟩ : ∃ Q0, Hid ((w.alloc (.cells #[.slice none 0 0, .int .i64 0] 25)) = Q0) := ⟨_, rfl⟩
  have HI : Hid (In W A len cap) := by rw [← HW.out]; exact in_alloc hI _
  have KR : Hid (Blk W w.heap.size 25 #[.slice none 0 0, .int .i64 0]) := by rw [← HW.out]; exact Blk.new w _ _
  have HB : Hid (Below w.heap.size w W) := by rw [← HW.out]; exact (Below.refl _ w).alloc (Nat.le_refl _) _
  have hWz : w.heap.size < W.heap.size := KR.out.lt
  clear hI
  go_enter Try.func18, Try.ntmps18
  go_upto_region 1 with fail
  rw [HW.out]
  go_wp2_with fail
  refine (open_any A len cap _ HI.out).mono ?_
  rintro e w1 ⟨len', cap', rfl, hR1, hb1⟩
  have HR1 := Lib.hid hR1
  have KR1 := Lib.hid (KR.out.below hb1 KR.out.lt)
  have HB1 : Hid (Below w.heap.size w w1) := HB.out.trans (hb1.mono HB.out.size)
  clear hR1 hb1
  go_wp2_with fail
  refine (drawjournal_any HR1.out (by omega)).mono ?_
  rintro e w2 ⟨X, c, rs, s, q2, rfl, ho2, hf, hl, hs0, hs1, hq2, hR2, hg2⟩
  obtain ⟨n, HN⟩ : ∃ v, Hid (rs.length = v) := ⟨_, rfl⟩
  rw [HN.out] at hl ⊢
  have HR2 := Lib.hid hR2
  have KR2 := Lib.hid (KR1.out.grown hg2 (fun e => by injection e with e; omega))
  have HB2 : Hid (Below w.heap.size w w2) := HB1.out.grown hg2 HB1.out.size (fun i hi => by injection hi with hi; omega)
  have hz12 : W.heap.size < w1.heap.size := HR1.out.lt
  have hz2 : w1.heap.size ≤ w2.heap.size := hg2.size
  have HO2 := Lib.hid ho2
  have HF := Lib.hid hf
  clear ho2 hg2 hR2 hf
  go_wp2_with fail
  obtain ⟨w3, HW3⟩ : ∃ Q0, Hid (w2.alloc (.cells #[.slice X n c, .int .i64 s] 25) = Q0) := ⟨_, rfl⟩
  have KJ3 : Hid (Blk w3 w2.heap.size 25 #[.slice X n c, .int .i64 s]) := by rw [← HW3.out]; exact Blk.new w2 _ _
  have KR3 : Hid (Blk w3 w.heap.size 25 #[.slice none 0 0, .int .i64 0]) := by rw [← HW3.out]; exact KR2.out.alloc _
  have HB3 : Hid (Below w.heap.size w w3) := by rw [← HW3.out]; exact HB2.out.alloc HB2.out.size _
  have HO3 : Hid (OwnRow RK w3 w1.heap.size X c rs) := by rw [← HW3.out]; exact HO2.out.alloc _
  have HR3 : Hid (Rd w3 W.heap.size W.heap.size A len' cap' q2) := by rw [← HW3.out]; exact HR2.out.alloc _
  have hz3 : w2.heap.size < w3.heap.size := KJ3.out.lt
  rw [HW3.out]
  (try go_wp2_with fail)
  refine wp_region_held_drew (S := (fun w' => w'.cell? ⟨w2.heap.size, 0, none⟩ = some (.slice X n c) ∧ w'.cell? ⟨w2.heap.size, 1, none⟩ = some (.int .i64 s))) (by kernel_rfl) (jr_cells KJ3.out) (fun hHeld => ?_)
  obtain ⟨U0, HU0⟩ : ∃ U, Hid (w3.drew = U) := ⟨_, rfl⟩
  have KJ0 : Hid (Blk U0 w2.heap.size 25 #[.slice X n c, .int .i64 s]) := by rw [← HU0.out]; exact KJ3.out
  have KR0 : Hid (Blk U0 w.heap.size 25 #[.slice none 0 0, .int .i64 0]) := by rw [← HU0.out]; exact KR3.out
  have HB0 : Hid (Below w.heap.size w U0) := by rw [← HU0.out]; exact below_drew HB3.out
  have HO0 : Hid (OwnRow RK U0 w1.heap.size X c rs) := by rw [← HU0.out]; exact HO3.out
  have HR0 : Hid (Rd U0 W.heap.size W.heap.size A len' cap' q2) := by rw [← HU0.out]; exact HR3.out.drew
  rw [HU0.out] at hHeld ⊢
  refine wpAnyH_take (i := 0) (v := ?zv6) rfl (by kernel_rfl) (by kernel_rfl) (by kernel_rfl) (fun _ _ _ h => h) (Or.inl ⟨by kernel_rfl, ?zy6⟩) (by assumption) ?zr6
  case zy6 => (intro w hSw; (try dsimp only at hSw); go_simp; try with_reducible rfl)
  change wpAnyH _ _ _ _ _ _ _ (Act.put _ (some 10) _) _
  simp only [Act.put, List.setIfInBounds_toArray, List.set_cons_zero, List.set_cons_succ]
  refine wpAnyH_take (i := 1) (v := ?zv7) rfl (by kernel_rfl) (by kernel_rfl) (by kernel_rfl) (fun _ _ _ h => h) (Or.inl ⟨by kernel_rfl, ?zy7⟩) (by assumption) ?zr7
  case zy7 => (intro w hSw; (try dsimp only at hSw); go_simp; try with_reducible rfl)
  change wpAnyH _ _ _ _ _ _ _ (Act.put _ (some 11) _) _
  simp only [Act.put, List.setIfInBounds_toArray, List.set_cons_zero, List.set_cons_succ]
  refine wpAnyH_take (i := 3) (v := ?zv8) rfl (by kernel_rfl) (by kernel_rfl) (by kernel_rfl) (fun _ _ _ h => h) (Or.inl ⟨by kernel_rfl, ?zy8⟩) (by assumption) ?zr8
  case zy8 => (intro w hSw; (try dsimp only at hSw); go_simp; try with_reducible rfl)
  change wpAnyH _ _ _ _ _ _ _ (Act.put _ (some 13) _) _
  simp only [Act.put, List.setIfInBounds_toArray, List.set_cons_zero, List.set_cons_succ]
  refine wpAnyH_ready (rs := [2]) (by kernel_rfl) (by simp) (AllReadyH.cons rfl (fun K hK => ?zo9_0) AllReadyH.nil)
  case zo9_0 =>
    go_simp
    go_at_call 33
    refine (pick_any 6 HR0.out (by omega) (by omega) (by omega)).mono ?_
    rintro e U1 ⟨x, hx, rfl, hR1, hg1, hzz1⟩
    have KR1 := Lib.hid (KR0.out.grown hg1 (fun e => by injection e with e; omega))
    have KJ1 := Lib.hid (KJ0.out.grown hg1 (fun e => by injection e with e; omega))
    have HB1 : Hid (Below w.heap.size w U1) := HB0.out.grown hg1 HB0.out.size (fun i hi => by injection hi with hi; omega)
    have HO1 := Lib.hid (HO0.out.keep hg1 (fun i hi => by injection hi with hi; omega))
    have HR1 := Lib.hid hR1
    clear hR1 hg1
    clear hzz1
    refine hK.out _ _ (jr_cells KJ1.out) (fun hHeld => ?_)
    clear hK K
    (try simp only [Act.put, List.setIfInBounds_toArray, List.set_cons_zero, List.set_cons_succ])
    refine wpAnyH_ready (rs := [4]) (by kernel_rfl) (by simp) (AllReadyH.cons rfl (fun K hK => ?zo10_0) AllReadyH.nil)
    case zo10_0 =>
      go_simp
      go_at_call 33
      refine (pick_any 20 HR1.out (by omega) (by omega) (by omega)).mono ?_
      rintro e U2 ⟨y, hy, rfl, hR2, hg2, hzz2⟩
      have KR2 := Lib.hid (KR1.out.grown hg2 (fun e => by injection e with e; omega))
      have KJ2 := Lib.hid (KJ1.out.grown hg2 (fun e => by injection e with e; omega))
      have HB2 : Hid (Below w.heap.size w U2) := HB1.out.grown hg2 HB1.out.size (fun i hi => by injection hi with hi; omega)
      have HO2 := Lib.hid (HO1.out.keep hg2 (fun i hi => by injection hi with hi; omega))
      have HR2 := Lib.hid hR2
      clear hR2 hg2
      clear hzz2
      refine hK.out _ _ (jr_cells KJ2.out) (fun hHeld => ?_)
      clear hK K
      (try simp only [Act.put, List.setIfInBounds_toArray, List.set_cons_zero, List.set_cons_succ])
      have hy0 : (0 : Int) ≤ (y : Int) := by omega
      have hyq : 0 ≤ (y : Int) / 19 ∧ (y : Int) / 19 ≤ 1 := by omega
      obtain ⟨d, hd⟩ : ∃ d, (y : Int) / 19 = d := ⟨_, rfl⟩
      have hx0 : (0 : Int) ≤ (x : Int) ∧ (x : Int) ≤ 5 := by omega
      rw [hd] at hyq
      obtain ⟨hd0, hd1⟩ := hyq
      obtain ⟨hx00, hx01⟩ := hx0
      have hw1 : IntKind.i64.wrap d = d := IntWalk.i64_in _ (by omega)
      have hw2 : IntKind.i64.wrap (d * 6) = d * 6 := IntWalk.i64_in _ (by omega)
      have hw3 : IntKind.i64.wrap ((x : Int) - d * 6) = (x : Int) - d * 6 := IntWalk.i64_in _ (by omega)
      refine wpAnyH_take (i := 5) (v := ?zv11) rfl (by kernel_rfl) (by kernel_rfl) (by kernel_rfl) (fun _ _ _ h => h) (Or.inl ⟨by kernel_rfl, ?zy11⟩) (by assumption) ?zr11
      case zy11 => (intro w hSw; (try dsimp only at hSw); go_simp; try with_reducible rfl)
      change wpAnyH _ _ _ _ _ _ _ (Act.put _ (some 15) _) _
      simp only [Act.put, List.setIfInBounds_toArray, List.set_cons_zero, List.set_cons_succ]
      refine wpAnyH_take (i := 6) (v := ?zv12) rfl (by kernel_rfl) (by kernel_rfl) (by kernel_rfl) (fun _ _ _ h => h) (Or.inl ⟨by kernel_rfl, ?zy12⟩) (by assumption) ?zr12
      case zy12 => (intro w hSw; (try dsimp only at hSw); go_simp; try with_reducible rfl)
      change wpAnyH _ _ _ _ _ _ _ (Act.put _ (some 16) _) _
      simp only [Act.put, List.setIfInBounds_toArray, List.set_cons_zero, List.set_cons_succ]
      refine wpAnyH_take (i := 7) (v := ?zv13) rfl (by kernel_rfl) (by kernel_rfl) (by kernel_rfl) (fun _ _ _ h => h) (Or.inl ⟨by kernel_rfl, ?zy13⟩) (by assumption) ?zr13
      case zy13 => (intro w hSw; (try dsimp only at hSw); go_simp; try with_reducible rfl)
      change wpAnyH _ _ _ _ _ _ _ (Act.put _ (some 17) _) _
      simp only [Act.put, List.setIfInBounds_toArray, List.set_cons_zero, List.set_cons_succ]
      refine wpAnyH_ready (rs := [8]) (by kernel_rfl) (by simp) (AllReadyH.cons rfl (fun K hK => ?zo14_0) AllReadyH.nil)
      case zo14_0 =>
        go_simp
        obtain ⟨n0, n1⟩ := jr_cells KR2.out
        have nf := blk_frozen KR2.out
        obtain ⟨U3, HU3⟩ : ∃ Q0, Hid ((U2.setCell ⟨w.heap.size, 0, none⟩ (.slice X n c)).setCell ⟨w.heap.size, 1, none⟩ (.int .i64 s) = Q0) := ⟨_, rfl⟩
        have KR3 : Hid (Blk U3 w.heap.size 25 #[.slice X n c, .int .i64 s]) := by rw [← HU3.out]; exact blk_two KR2.out _ _
        have HO3 : Hid (OwnRow RK U3 w1.heap.size X c rs) := by rw [← HU3.out]; exact rown_two HO2.out KR2.out _ _
        have KJ3 : Hid (Blk U3 w2.heap.size 25 #[.slice X n c, .int .i64 s]) := by rw [← HU3.out]; exact (KJ2.out.setOther (p := ⟨w.heap.size, 0, none⟩) (by show w.heap.size ≠ w2.heap.size; omega) _).setOther (p := ⟨w.heap.size, 1, none⟩) (by show w.heap.size ≠ w2.heap.size; omega) _
        have HB3 : Hid (Below w.heap.size w U3) := by rw [← HU3.out]; exact below_two HB2.out (by omega) _ _
        have HR3 : True := trivial
        go_simp
        rw [HU3.out]
        refine hK.out _ _ (jr_cells KJ3.out) (fun hHeld => ?_)
        clear hK K
        (try simp only [Act.put])
        clear n0 n1 nf
        refine wpAnyH_take (i := 9) (v := ?zv15) rfl (by kernel_rfl) (by kernel_rfl) (by kernel_rfl) (fun _ _ _ h => h) (Or.inl ⟨by kernel_rfl, ?zy15⟩) (by assumption) ?zr15
        case zy15 => (intro w hSw; (try dsimp only at hSw); go_simp; try with_reducible rfl)
        change wpAnyH _ _ _ _ _ _ _ (Act.put _ (some 3) _) _
        simp only [Act.put, List.setIfInBounds_toArray, List.set_cons_zero, List.set_cons_succ]
        refine wpAnyH_done (by kernel_rfl) ?_ _
        go_wp2
        obtain ⟨y0, y1⟩ := jr_cells KR3.out
        exact bodyPost_ret (v := .tuple #[journalV X n c s, .int .i64 ((x : Int) - d * 6)]) (by simp [results, Try.results18, go_sem, y0, y1]) rfl ⟨X, c, rs, s, (x : Int) - d * 6, by rw [HN.out], HO3.out.base_le (by omega), HF.out, by rw [HN.out]; exact hl, hs0, hs1, by omega, by omega, HB3.out⟩

end Go.Proofs.Ytnllejialnkgnaa
