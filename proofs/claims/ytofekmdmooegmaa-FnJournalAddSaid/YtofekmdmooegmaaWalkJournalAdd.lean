/- The walk of FnJournalAdd: it returns true and changes nothing that was there. Condition: the codes' bytes lie in memory. -/
import Derived.Test.YtofekmdmooegmaaDrawJ
namespace Go.Proofs.Ytofekmdmooegmaa
open Go.RowKit Go.Conc
set_option linter.unusedVariables false

set_option maxHeartbeats 8000000 in
set_option maxRecDepth 100000 in
theorem walkJournalAdd (A : Option Addr) (len cap : Nat) (w : World) (hI : In w A len cap) :
    Calls Try.prog 3 #[.slice A len cap] w fun e w' => e = .returned (.bool true) ∧ Below w.heap.size w w' := by
  have hm := hI.len_le
  unfold maxLen at hm
  have HI := Lib.hid hI
  clear hI
  by_cases hlen : len ≤ 1048576
  · go_enter Try.func3, Try.ntmps3
    go_wp2_with fail
    refine (drawJAdd_any A len cap _ HI.out).mono ?_
    rintro e w1 ⟨X, c, rs, s, r, rfl, ho, hf, hl, hs0, hs1, hrt, hri0, hri1, hb1⟩
    obtain ⟨ri, rt⟩ := r
    have hrt2 : rt.size ≤ 10 := hrt
    have hri2 : -1 ≤ ri := hri0
    have hri3 : ri ≤ 16 := hri1
    have hrm : (⟨ri, rt⟩ : RD).t.size ≤ maxLen := by show rt.size ≤ maxLen; unfold maxLen; omega
    have HRM := Lib.hid hrm
    have PF1 := Lib.hid ho
    have HF := Lib.hid hf
    have HB1 := Lib.hid hb1
    clear ho hf hb1 hrt hri0 hri1 hrm
    obtain ⟨nb, HN⟩ : ∃ v, Hid (rs.length = v) := ⟨_, rfl⟩
    obtain ⟨obs, HO⟩ : ∃ v, Hid (addR rs s ⟨ri, rt⟩ = v) := ⟨_, rfl⟩
    obtain ⟨os, HS⟩ : ∃ v, Hid (addS rs s ⟨ri, rt⟩ = v) := ⟨_, rfl⟩
    obtain ⟨ba, HA⟩ : ∃ v, Hid (addB rs s ⟨ri, rt⟩ = v) := ⟨_, rfl⟩
    obtain ⟨mb, HM⟩ : ∃ v, Hid (obs.length = v) := ⟨_, rfl⟩
    rw [HN.out] at hl ⊢
    obtain ⟨w1a, HW1a⟩ : ∃ Q0, Hid (w1.alloc (.cells #[.slice X nb c, .int .i64 s] 25) = Q0) := ⟨_, rfl⟩
    have hb1a : Below w1.heap.size w1 w1a := by rw [← HW1a.out]; exact (Below.refl _ _).alloc (Nat.le_refl _) _
    have PF1a := Lib.hid (PF1.out.below hb1a)
    have HB1a : Hid (Below w.heap.size w w1a) := HB1.out.trans (hb1a.mono HB1.out.size)
    clear hb1a
    have LF1a : Hid (Blk w1a w1.heap.size 25 #[.slice X nb c, .int .i64 s]) := by rw [← HW1a.out]; exact Blk.new w1 _ _
    obtain ⟨w2, HW2⟩ : ∃ Q0, Hid (w1a.alloc (.cells #[.int .i64 ri, .string rt] 27) = Q0) := ⟨_, rfl⟩
    have hb2 : Below w1a.heap.size w1a w2 := by rw [← HW2.out]; exact (Below.refl _ _).alloc (Nat.le_refl _) _
    have PF2 := Lib.hid (PF1a.out.below hb2)
    have HB2 : Hid (Below w.heap.size w w2) := HB1a.out.trans (hb2.mono HB1a.out.size)
    have LF2 := Lib.hid (LF1a.out.below hb2 LF1a.out.lt)
    clear hb2
    have LR2 : Hid (Blk w2 w1a.heap.size 27 #[.int .i64 ri, .string rt]) := by rw [← HW2.out]; exact Blk.new w1a _ _
    have hz1a : w1a.heap.size = w1.heap.size + 1 := by rw [← HW1a.out]; simp
    rw [hz1a] at LR2
    go_wp2_with fail
    rw [HW1a.out, HW2.out]
    have CI := jadd_any X c s rs ⟨ri, rt⟩ w2 (own_jat PF2.out HF.out) HRM.out
    rw [HN.out, HO.out, HS.out, HA.out] at CI
    refine CI.mono ?_
    rintro e w3 ⟨A3, c3, rfl, ho3, hf3, hb3⟩
    rw [HM.out]
    have PO3 := Lib.hid ho3
    have HFO := Lib.hid hf3
    clear ho3 hf3 CI hz1a
    have PF3 := Lib.hid (PF2.out.below hb3)
    have HB3 : Hid (Below w.heap.size w w3) := HB2.out.trans (hb3.mono HB2.out.size)
    have LF3 := Lib.hid (LF2.out.below hb3 LF2.out.lt)
    have LR3 := Lib.hid (LR2.out.below hb3 LR2.out.lt)
    clear hb3
    have hzLF3 := LF3.out.lt
    have hzLR3 := LR3.out.lt
    obtain ⟨w4, HW4⟩ : ∃ Q0, Hid (w3.alloc (.cells #[.slice A3 mb c3, .int .i64 os] 25) = Q0) := ⟨_, rfl⟩
    have hb4 : Below w3.heap.size w3 w4 := by rw [← HW4.out]; exact (Below.refl _ _).alloc (Nat.le_refl _) _
    have PF4 := Lib.hid (PF3.out.below hb4)
    have HB4 : Hid (Below w.heap.size w w4) := HB3.out.trans (hb4.mono HB3.out.size)
    have LF4 := Lib.hid (LF3.out.below hb4 LF3.out.lt)
    have LR4 := Lib.hid (LR3.out.below hb4 LR3.out.lt)
    have PO4 := Lib.hid (PO3.out.below hb4)
    clear hb4
    have LO4 : Hid (Blk w4 w3.heap.size 25 #[.slice A3 mb c3, .int .i64 os]) := by rw [← HW4.out]; exact Blk.new w3 _ _
    obtain ⟨f0, f1⟩ := jr_cells LF3.out
    obtain ⟨r0, r1⟩ := jr_cells LR3.out
    go_wp2_with fail
    rw [HW4.out]
    have CI := sjadd_any X c s rs ⟨ri, rt⟩ w4 (own_jat PF4.out HF.out) HRM.out
    rw [HN.out, HO.out, HS.out, HA.out] at CI
    refine CI.mono ?_
    rintro e w5 ⟨A5, c5, rfl, ho5, hf5, hb5⟩
    rw [HM.out]
    have PW5 := Lib.hid ho5
    clear ho5 hf5 CI f0 f1 r0 r1
    clear hzLF3
    clear hzLR3
    have PF5 := Lib.hid (PF4.out.below hb5)
    have HB5 : Hid (Below w.heap.size w w5) := HB4.out.trans (hb5.mono HB4.out.size)
    have LF5 := Lib.hid (LF4.out.below hb5 LF4.out.lt)
    have LR5 := Lib.hid (LR4.out.below hb5 LR4.out.lt)
    have PO5 := Lib.hid (PO4.out.below hb5)
    have LO5 := Lib.hid (LO4.out.below hb5 LO4.out.lt)
    clear hb5
    have hzLF5 := LF5.out.lt
    have hzLR5 := LR5.out.lt
    have hzLO5 := LO5.out.lt
    obtain ⟨w6, HW6⟩ : ∃ Q0, Hid (w5.alloc (.cells #[.slice A5 mb c5, .int .i64 os] 25) = Q0) := ⟨_, rfl⟩
    have hb6 : Below w5.heap.size w5 w6 := by rw [← HW6.out]; exact (Below.refl _ _).alloc (Nat.le_refl _) _
    have PF6 := Lib.hid (PF5.out.below hb6)
    have HB6 : Hid (Below w.heap.size w w6) := HB5.out.trans (hb6.mono HB5.out.size)
    have LF6 := Lib.hid (LF5.out.below hb6 LF5.out.lt)
    have LR6 := Lib.hid (LR5.out.below hb6 LR5.out.lt)
    have PO6 := Lib.hid (PO5.out.below hb6)
    have LO6 := Lib.hid (LO5.out.below hb6 LO5.out.lt)
    have PW6 := Lib.hid (PW5.out.below hb6)
    clear hb6
    have LW6 : Hid (Blk w6 w5.heap.size 25 #[.slice A5 mb c5, .int .i64 os]) := by rw [← HW6.out]; exact Blk.new w5 _ _
    obtain ⟨f0, f1⟩ := jr_cells LF5.out
    obtain ⟨r0, r1⟩ := jr_cells LR5.out
    obtain ⟨o0, o1⟩ := jr_cells LO5.out
    have hne : (ba != ba) = false := by simp
    have heq : (ba == ba) = true := by simp
    go_wp2_with fail
    rw [HW6.out]
    clear f0 f1 r0 r1 o0 o1
    clear hzLF5
    clear hzLR5
    clear hzLO5
    refine (sameJ_any A3 c3 A5 c5 obs os w6 (own_jat PO6.out HFO.out) (own_jat PW6.out HFO.out) HM.out).mono ?_
    rintro e w7 ⟨rfl, hb7⟩
    have PF7 := Lib.hid (PF6.out.below hb7)
    have HB7 : Hid (Below w.heap.size w w7) := HB6.out.trans (hb7.mono HB6.out.size)
    have LF7 := Lib.hid (LF6.out.below hb7 LF6.out.lt)
    have LR7 := Lib.hid (LR6.out.below hb7 LR6.out.lt)
    have PO7 := Lib.hid (PO6.out.below hb7)
    have LO7 := Lib.hid (LO6.out.below hb7 LO6.out.lt)
    have PW7 := Lib.hid (PW6.out.below hb7)
    have LW7 := Lib.hid (LW6.out.below hb7 LW6.out.lt)
    clear hb7
    cases ba with
    | false =>
      obtain ⟨o0, o1⟩ := jr_cells LO7.out
      obtain ⟨q0, q1⟩ := jr_cells LW7.out
      go_wp2_with fail
      refine (sameJ_any A3 c3 A5 c5 obs os w7 (own_jat PO7.out HFO.out) (own_jat PW7.out HFO.out) HM.out).mono ?_
      rintro e w8 ⟨rfl, hb8⟩
      have PF8 := Lib.hid (PF7.out.below hb8)
      have HB8 : Hid (Below w.heap.size w w8) := HB7.out.trans (hb8.mono HB7.out.size)
      have LF8 := Lib.hid (LF7.out.below hb8 LF7.out.lt)
      have LR8 := Lib.hid (LR7.out.below hb8 LR7.out.lt)
      have PO8 := Lib.hid (PO7.out.below hb8)
      have LO8 := Lib.hid (LO7.out.below hb8 LO7.out.lt)
      have PW8 := Lib.hid (PW7.out.below hb8)
      have LW8 := Lib.hid (LW7.out.below hb8 LW7.out.lt)
      clear hb8
      go_wp2
      go_ret
      exact ⟨rfl, HB8.out⟩
    | true =>
      obtain ⟨hok, hrc, hlt⟩ := (addB_iff _ _ _).1 HA.out
      obtain ⟨-, hs2, hs3, hall⟩ := (jokB_iff _ _).1 hok
      rw [HN.out] at hlt hs3
      have ho := HO.out
      have hso := HS.out
      unfold addR at ho
      unfold addS at hso
      rw [if_pos ⟨hok, hrc⟩, HN.out, if_pos hlt] at ho
      rw [if_pos ⟨hok, hrc⟩] at hso
      subst hso
      have hmb : mb = nb + 1 := by rw [← HM.out, ← ho, List.length_append, HN.out]; rfl
      subst hmb
      have HOK2 : Hid (jokB obs s = true) := by
        show _ = _
        rw [← ho]
        exact (jokB_iff _ _).2 ⟨by rw [List.length_append, HN.out]; show nb + 1 ≤ 20; omega, hs2, by rw [List.length_append, HN.out]; show s ≤ ((nb + 1 : Nat) : Int); omega, allB_snoc hall hrc⟩
      have HTK : Hid (obs.take nb = rs) := by show _ = _; rw [← ho, ← HN.out, List.take_append_of_le_length (Nat.le_refl _), List.take_length]
      have HLAST : Hid (rth obs nb = ⟨ri, rt⟩) := by show _ = _; rw [← ho, ← HN.out]; exact rth_snoc _ _
      obtain ⟨b3, hA3, -, -⟩ := PO7.out.form (by rw [HM.out]; omega)
      subst hA3
      have hcap := PO7.out.le
      rw [HM.out] at hcap
      have hcap1 : nb + 1 ≤ c3 := hcap.1
      have hcap2 : c3 ≤ 9223372036854775807 := by have := hcap.2; unfold maxLen at this; omega
      clear hok hrc ho hs2 hs3 hall hcap
      have hn0 : (0 : Int) ≤ (nb : Int) := by omega
      have hn1 : (nb : Int) ≤ (c3 : Int) := by omega
      have hn2 : (nb : Int) + 1 - 1 = (nb : Int) := by omega
      have hn3 : (((nb + 1 : Nat) : Int)) - 1 = (nb : Int) := by omega
      have hn4 : (nb : Int) < (((nb + 1 : Nat) : Int)) := by omega
      have hn5 : nb < nb + 1 := by omega
      obtain ⟨o0, o1⟩ := jr_cells LO7.out
      have hzLF7 := LF7.out.lt
      have hzLR7 := LR7.out.lt
      have hzLO7 := LO7.out.lt
      have hzLW7 := LW7.out.lt
      go_upto_region 9 with fail
      obtain ⟨w8, HW8⟩ : ∃ Q0, Hid (w7.alloc (.cells #[.slice (some ⟨b3, 0, none⟩) (nb + 1) c3, .int .i64 s] 25) = Q0) := ⟨_, rfl⟩
      have hb8 : Below w7.heap.size w7 w8 := by rw [← HW8.out]; exact (Below.refl _ _).alloc (Nat.le_refl _) _
      have LX8 : Hid (Blk w8 w7.heap.size 25 #[.slice (some ⟨b3, 0, none⟩) (nb + 1) c3, .int .i64 s]) := by rw [← HW8.out]; exact Blk.new w7 _ _
      have PF8 := Lib.hid (PF7.out.below hb8)
      have HB8 : Hid (Below w.heap.size w w8) := HB7.out.trans (hb8.mono HB7.out.size)
      have LF8 := Lib.hid (LF7.out.below hb8 LF7.out.lt)
      have LR8 := Lib.hid (LR7.out.below hb8 LR7.out.lt)
      have PO8 := Lib.hid (PO7.out.below hb8)
      have LO8 := Lib.hid (LO7.out.below hb8 LO7.out.lt)
      have PW8 := Lib.hid (PW7.out.below hb8)
      have LW8 := Lib.hid (LW7.out.below hb8 LW7.out.lt)
      clear hb8
      rw [HW8.out]
      clear o0 o1
      obtain ⟨o0, o1⟩ := jr_cells LO8.out
      obtain ⟨x0, x1⟩ := jr_cells LX8.out
      have xf := blk_frozen LX8.out
      go_upto_region 11 with fail
      obtain ⟨w9, HW9⟩ : ∃ Q0, Hid (w8.setCell ⟨w7.heap.size, 0, none⟩ (.slice (some ⟨b3, 0, none⟩) nb c3) = Q0) := ⟨_, rfl⟩
      have LX9 : Hid (Blk w9 w7.heap.size 25 #[.slice (some ⟨b3, 0, none⟩) nb c3, .int .i64 s]) := by rw [← HW9.out]; exact LX8.out.setOwn 0 _
      have hk9 : ∀ i, i ≠ w7.heap.size → w9.heap[i]? = w8.heap[i]? := fun i hi => by rw [← HW9.out]; exact Below.heap_setCell _ ⟨w7.heap.size, 0, none⟩ _ i hi
      have LF9 : Hid (Blk w9 w1.heap.size 25 #[.slice X nb c, .int .i64 s]) := (hk9 _ (by omega)).trans LF8.out
      have LR9 : Hid (Blk w9 (w1.heap.size + 1) 27 #[.int .i64 ri, .string rt]) := (hk9 _ (by omega)).trans LR8.out
      have LO9 : Hid (Blk w9 w3.heap.size 25 #[.slice (some ⟨b3, 0, none⟩) (nb + 1) c3, .int .i64 s]) := (hk9 _ (by omega)).trans LO8.out
      have PF9 : Hid (OwnRow RK w9 w.heap.size X c rs) := rown_block PF8.out fun y hy => hk9 y (own_ne_blk PF8.out LX8.out (by decide) y hy)
      have PO9 : Hid (OwnRow RK w9 w2.heap.size (some ⟨b3, 0, none⟩) c3 obs) := rown_block PO8.out fun y hy => hk9 y (own_ne_blk PO8.out LX8.out (by decide) y hy)
      have HB9 : Hid (Below w.heap.size w w9) := by rw [← HW9.out]; exact HB8.out.setCell (p := ⟨w7.heap.size, 0, none⟩) HB7.out.size _
      rw [HW9.out]
      clear o0 o1 x0 x1 xf hk9 hzLF7 hzLR7 hzLO7 hzLW7
      obtain ⟨o0, o1⟩ := jr_cells LO9.out
      obtain ⟨x0, x1⟩ := jr_cells LX9.out
      obtain ⟨f0, f1⟩ := jr_cells LF9.out
      obtain ⟨r0, r1⟩ := jr_cells LR9.out
      have e0 : w9.cell? ⟨b3, nb * 2, none⟩ = some (.int .i64 ri) := by have h := (rec_cells PO9.out.at_ nb (by rw [HM.out]; omega)).1; rw [HLAST.out, Nat.zero_add] at h; exact h
      have e1 : w9.cell? ⟨b3, nb * 2 + 1, none⟩ = some (.string rt) := by have h := (rec_cells PO9.out.at_ nb (by rw [HM.out]; omega)).2; rw [HLAST.out, Nat.zero_add] at h; exact h
      have CSJ : Hid (∀ U, OwnRow RK U w2.heap.size (some ⟨b3, 0, none⟩) c3 obs → OwnRow RK U w.heap.size X c rs → Calls Try.prog 16 #[journalV (some ⟨b3, 0, none⟩) nb c3 s, journalV X nb c s] U fun e w' => e = .returned (.bool true) ∧ Below U.heap.size U w') := fun U h1 h2 => by
        have h := (own_jat h1 HFO.out).first nb
        rw [HTK.out] at h
        exact sameJ_any (some ⟨b3, 0, none⟩) c3 X c rs s U h (own_jat h2 HF.out) HN.out
      have CJV : Hid (∀ U, OwnRow RK U w2.heap.size (some ⟨b3, 0, none⟩) c3 obs → Calls Try.prog 17 #[journalV (some ⟨b3, 0, none⟩) (nb + 1) c3 s] U fun e w' => e = .returned (.bool true) ∧ Below U.heap.size U w') := fun U h1 => by
        have h := jvalid_any (some ⟨b3, 0, none⟩) c3 s obs U (own_jat h1 HFO.out)
        rw [HM.out, HOK2.out] at h
        exact h
      have HLM : Hid (nb < obs.length) := by show _ < _; rw [HM.out]; omega
      have er : (ri == ri) = true := by simp
      have et : (rt.toList == rt.toList) = true := by simp
      have hn6 : (nb : Int) < (nb : Int) + 1 := by omega
      have hwn : IntKind.i64.wrap (nb : Int) = (nb : Int) := IntWalk.i64_in _ (by omega)
      (try go_wp2_with fail)
      refine wp_region_held_drew (S := (fun w' => w'.cell? ⟨w3.heap.size, 0, none⟩ = some (.slice (some ⟨b3, 0, none⟩) (nb + 1) c3) ∧ w'.cell? ⟨w3.heap.size, 1, none⟩ = some (.int .i64 s) ∧ w'.cell? ⟨w7.heap.size, 0, none⟩ = some (.slice (some ⟨b3, 0, none⟩) nb c3) ∧ w'.cell? ⟨w7.heap.size, 1, none⟩ = some (.int .i64 s) ∧ w'.cell? ⟨w1.heap.size, 0, none⟩ = some (.slice X nb c) ∧ w'.cell? ⟨w1.heap.size, 1, none⟩ = some (.int .i64 s) ∧ w'.cell? ⟨w1.heap.size + 1, 0, none⟩ = some (.int .i64 ri) ∧ w'.cell? ⟨w1.heap.size + 1, 1, none⟩ = some (.string rt) ∧ w'.cell? ⟨b3, nb * 2, none⟩ = some (.int .i64 ri) ∧ w'.cell? ⟨b3, nb * 2 + 1, none⟩ = some (.string rt))) (by kernel_rfl) (⟨o0, o1, x0, x1, f0, f1, r0, r1, e0, e1⟩) (fun hHeld => ?_)
      refine wpAnyH_take (i := 0) (v := ?zv9001) rfl (by kernel_rfl) (by kernel_rfl) (by kernel_rfl) (fun _ _ _ h => h) (Or.inl ⟨by kernel_rfl, ?zy9001⟩) (by assumption) ?zr9001
      case zy9001 => (intro w hSw; (try dsimp only at hSw); go_simp; try with_reducible rfl)
      change wpAnyH _ _ _ _ _ _ _ (Act.put _ (some 62) _) _
      simp only [Act.put, List.setIfInBounds_toArray, List.set_cons_zero, List.set_cons_succ]
      refine wpAnyH_take (i := 1) (v := ?zv9002) rfl (by kernel_rfl) (by kernel_rfl) (by kernel_rfl) (fun _ _ _ h => h) (Or.inl ⟨by kernel_rfl, ?zy9002⟩) (by assumption) ?zr9002
      case zy9002 => (intro w hSw; (try dsimp only at hSw); go_simp; try with_reducible rfl)
      change wpAnyH _ _ _ _ _ _ _ (Act.put _ (some 63) _) _
      simp only [Act.put, List.setIfInBounds_toArray, List.set_cons_zero, List.set_cons_succ]
      refine wpAnyH_take (i := 2) (v := ?zv9003) rfl (by kernel_rfl) (by kernel_rfl) (by kernel_rfl) (fun _ _ _ h => h) (Or.inl ⟨by kernel_rfl, ?zy9003⟩) (by assumption) ?zr9003
      case zy9003 => (intro w hSw; (try dsimp only at hSw); go_simp; try with_reducible rfl)
      change wpAnyH _ _ _ _ _ _ _ (Act.put _ (some 64) _) _
      simp only [Act.put, List.setIfInBounds_toArray, List.set_cons_zero, List.set_cons_succ]
      refine wpAnyH_take (i := 3) (v := ?zv9004) rfl (by kernel_rfl) (by kernel_rfl) (by kernel_rfl) (fun _ _ _ h => h) (Or.inl ⟨by kernel_rfl, ?zy9004⟩) (by assumption) ?zr9004
      case zy9004 => (intro w hSw; (try dsimp only at hSw); go_simp; try with_reducible rfl)
      change wpAnyH _ _ _ _ _ _ _ (Act.put _ (some 65) _) _
      simp only [Act.put, List.setIfInBounds_toArray, List.set_cons_zero, List.set_cons_succ]
      refine wpAnyH_take (i := 4) (v := ?zv9005) rfl (by kernel_rfl) (by kernel_rfl) (by kernel_rfl) (fun _ _ _ h => h) (Or.inl ⟨by kernel_rfl, ?zy9005⟩) (by assumption) ?zr9005
      case zy9005 => (intro w hSw; (try dsimp only at hSw); go_simp; try with_reducible rfl)
      change wpAnyH _ _ _ _ _ _ _ (Act.put _ (some 66) _) _
      simp only [Act.put, List.setIfInBounds_toArray, List.set_cons_zero, List.set_cons_succ]
      refine wpAnyH_take (i := 5) (v := ?zv9006) rfl (by kernel_rfl) (by kernel_rfl) (by kernel_rfl) (fun _ _ _ h => h) (Or.inl ⟨by kernel_rfl, ?zy9006⟩) (by assumption) ?zr9006
      case zy9006 => (intro w hSw; (try dsimp only at hSw); go_simp; try with_reducible rfl)
      change wpAnyH _ _ _ _ _ _ _ (Act.put _ (some 67) _) _
      simp only [Act.put, List.setIfInBounds_toArray, List.set_cons_zero, List.set_cons_succ]
      refine wpAnyH_take (i := 6) (v := ?zv9007) rfl (by kernel_rfl) (by kernel_rfl) (by kernel_rfl) (fun _ _ _ h => h) (Or.inl ⟨by kernel_rfl, ?zy9007⟩) (by assumption) ?zr9007
      case zy9007 => (intro w hSw; (try dsimp only at hSw); go_simp; try with_reducible rfl)
      change wpAnyH _ _ _ _ _ _ _ (Act.put _ (some 68) _) _
      simp only [Act.put, List.setIfInBounds_toArray, List.set_cons_zero, List.set_cons_succ]
      refine wpAnyH_take (i := 7) (v := ?zv9008) rfl (by kernel_rfl) (by kernel_rfl) (by kernel_rfl) (fun _ _ _ h => h) (Or.inl ⟨by kernel_rfl, ?zy9008⟩) (by assumption) ?zr9008
      case zy9008 => (intro w hSw; (try dsimp only at hSw); go_simp; try with_reducible rfl)
      change wpAnyH _ _ _ _ _ _ _ (Act.put _ (some 69) _) _
      simp only [Act.put, List.setIfInBounds_toArray, List.set_cons_zero, List.set_cons_succ]
      refine wpAnyH_take (i := 8) (v := ?zv9009) rfl (by kernel_rfl) (by kernel_rfl) (by kernel_rfl) (fun _ _ _ h => h) (Or.inl ⟨by kernel_rfl, ?zy9009⟩) (by assumption) ?zr9009
      case zy9009 => (intro w hSw; (try dsimp only at hSw); go_simp; try with_reducible rfl)
      change wpAnyH _ _ _ _ _ _ _ (Act.put _ (some 70) _) _
      simp only [Act.put, List.setIfInBounds_toArray, List.set_cons_zero, List.set_cons_succ]
      refine wpAnyH_take (i := 9) (v := ?zv9010) rfl (by kernel_rfl) (by kernel_rfl) (by kernel_rfl) (fun _ _ _ h => h) (Or.inl ⟨by kernel_rfl, ?zy9010⟩) (by assumption) ?zr9010
      case zy9010 => (intro w hSw; (try dsimp only at hSw); go_simp; try with_reducible rfl)
      change wpAnyH _ _ _ _ _ _ _ (Act.put _ (some 71) _) _
      simp only [Act.put, List.setIfInBounds_toArray, List.set_cons_zero, List.set_cons_succ]
      refine wpAnyH_take (i := 10) (v := ?zv9011) rfl (by kernel_rfl) (by kernel_rfl) (by kernel_rfl) (fun _ _ _ h => h) (Or.inl ⟨by kernel_rfl, ?zy9011⟩) (by assumption) ?zr9011
      case zy9011 => (intro w hSw; (try dsimp only at hSw); go_simp; try with_reducible rfl)
      change wpAnyH _ _ _ _ _ _ _ (Act.put _ (some 72) _) _
      simp only [Act.put, List.setIfInBounds_toArray, List.set_cons_zero, List.set_cons_succ]
      refine wpAnyH_ready (rs := [11]) (by kernel_rfl) (by simp) (AllReadyH.cons rfl (fun K hK => ?_) AllReadyH.nil)
      go_simp
      go_at_call 16
      refine (CSJ.out _ (PO9.out.drewN 1) (PF9.out.drewN 1)).mono ?_
      rintro e w10 ⟨rfl, hb10d⟩
      have hb10 : Below w9.heap.size w9 w10 := below_drew_l hb10d
      clear hb10d
      have LF10 := Lib.hid (LF9.out.below hb10 LF9.out.lt)
      have LR10 := Lib.hid (LR9.out.below hb10 LR9.out.lt)
      have LO10 := Lib.hid (LO9.out.below hb10 LO9.out.lt)
      have LX10 := Lib.hid (LX9.out.below hb10 LX9.out.lt)
      have PF10 := Lib.hid (PF9.out.below hb10)
      have PO10 := Lib.hid (PO9.out.below hb10)
      have HB10 : Hid (Below w.heap.size w w10) := HB9.out.trans (hb10.mono HB9.out.size)
      clear hb10 o0 o1 x0 x1 f0 f1 r0 r1 e0 e1
      obtain ⟨o0, o1⟩ := jr_cells LO10.out
      obtain ⟨x0, x1⟩ := jr_cells LX10.out
      obtain ⟨f0, f1⟩ := jr_cells LF10.out
      obtain ⟨r0, r1⟩ := jr_cells LR10.out
      have e0 : w10.cell? ⟨b3, nb * 2, none⟩ = some (.int .i64 ri) := by have h := (rec_cells PO10.out.at_ nb HLM.out).1; rw [HLAST.out, Nat.zero_add] at h; exact h
      have e1 : w10.cell? ⟨b3, nb * 2 + 1, none⟩ = some (.string rt) := by have h := (rec_cells PO10.out.at_ nb HLM.out).2; rw [HLAST.out, Nat.zero_add] at h; exact h
      refine hK.out _ _ (⟨o0, o1, x0, x1, f0, f1, r0, r1, e0, e1⟩) (fun hHeld => ?_)
      clear hK K
      (try simp only [Act.put, List.setIfInBounds_toArray, List.set_cons_zero, List.set_cons_succ])
      refine wpAnyH_take (i := 12) (v := ?zv9012) rfl (by kernel_rfl) (by kernel_rfl) (by kernel_rfl) (fun _ _ _ h => h) (Or.inl ⟨by kernel_rfl, ?zy9012⟩) (by assumption) ?zr9012
      case zy9012 => (intro w hSw; (try dsimp only at hSw); go_simp; try with_reducible rfl)
      change wpAnyH _ _ _ _ _ _ _ (Act.put _ (some 74) _) _
      simp only [Act.put, List.setIfInBounds_toArray, List.set_cons_zero, List.set_cons_succ]
      refine wpAnyH_take (i := 13) (v := ?zv9013) rfl (by kernel_rfl) (by kernel_rfl) (by kernel_rfl) (fun _ _ _ h => h) (Or.inl ⟨by kernel_rfl, ?zy9013⟩) (by assumption) ?zr9013
      case zy9013 => (intro w hSw; (try dsimp only at hSw); go_simp; try with_reducible rfl)
      change wpAnyH _ _ _ _ _ _ _ (Act.put _ (some 75) _) _
      simp only [Act.put, List.setIfInBounds_toArray, List.set_cons_zero, List.set_cons_succ]
      refine wpAnyH_take (i := 14) (v := ?zv9014) rfl (by kernel_rfl) (by kernel_rfl) (by kernel_rfl) (fun _ _ _ h => h) (Or.inl ⟨by kernel_rfl, ?zy9014⟩) (by assumption) ?zr9014
      case zy9014 => (intro w hSw; (try dsimp only at hSw); go_simp; try with_reducible rfl)
      change wpAnyH _ _ _ _ _ _ _ (Act.put _ (some 76) _) _
      simp only [Act.put, List.setIfInBounds_toArray, List.set_cons_zero, List.set_cons_succ]
      refine wpAnyH_ready (rs := [15]) (by kernel_rfl) (by simp) (AllReadyH.cons rfl (fun K hK => ?_) AllReadyH.nil)
      go_simp
      go_at_call 17
      refine (CJV.out _ PO10.out).mono ?_
      rintro e w11 ⟨rfl, hb11⟩
      have LF11 := Lib.hid (LF10.out.below hb11 LF10.out.lt)
      have LR11 := Lib.hid (LR10.out.below hb11 LR10.out.lt)
      have LO11 := Lib.hid (LO10.out.below hb11 LO10.out.lt)
      have LX11 := Lib.hid (LX10.out.below hb11 LX10.out.lt)
      have PF11 := Lib.hid (PF10.out.below hb11)
      have PO11 := Lib.hid (PO10.out.below hb11)
      have HB11 : Hid (Below w.heap.size w w11) := HB10.out.trans (hb11.mono HB10.out.size)
      clear hb11 o0 o1 x0 x1 f0 f1 r0 r1 e0 e1
      obtain ⟨o0, o1⟩ := jr_cells LO11.out
      obtain ⟨x0, x1⟩ := jr_cells LX11.out
      obtain ⟨f0, f1⟩ := jr_cells LF11.out
      obtain ⟨r0, r1⟩ := jr_cells LR11.out
      have e0 : w11.cell? ⟨b3, nb * 2, none⟩ = some (.int .i64 ri) := by have h := (rec_cells PO11.out.at_ nb HLM.out).1; rw [HLAST.out, Nat.zero_add] at h; exact h
      have e1 : w11.cell? ⟨b3, nb * 2 + 1, none⟩ = some (.string rt) := by have h := (rec_cells PO11.out.at_ nb HLM.out).2; rw [HLAST.out, Nat.zero_add] at h; exact h
      refine hK.out _ _ (⟨o0, o1, x0, x1, f0, f1, r0, r1, e0, e1⟩) (fun hHeld => ?_)
      clear hK K
      (try simp only [Act.put, List.setIfInBounds_toArray, List.set_cons_zero, List.set_cons_succ])
      refine wpAnyH_take (i := 16) (v := ?zv9015) rfl (by kernel_rfl) (by kernel_rfl) (by kernel_rfl) (fun _ _ _ h => h) (Or.inl ⟨by kernel_rfl, ?zy9015⟩) (by assumption) ?zr9015
      case zy9015 => (intro w hSw; (try dsimp only at hSw); go_simp; try with_reducible rfl)
      change wpAnyH _ _ _ _ _ _ _ (Act.put _ (some 78) _) _
      simp only [Act.put, List.setIfInBounds_toArray, List.set_cons_zero, List.set_cons_succ]
      refine wpAnyH_take (i := 17) (v := ?zv9016) rfl (by kernel_rfl) (by kernel_rfl) (by kernel_rfl) (fun _ _ _ h => h) (Or.inl ⟨by kernel_rfl, ?zy9016⟩) (by assumption) ?zr9016
      case zy9016 => (intro w hSw; (try dsimp only at hSw); go_simp; try with_reducible rfl)
      change wpAnyH _ _ _ _ _ _ _ (Act.put _ (some 2) _) _
      simp only [Act.put, List.setIfInBounds_toArray, List.set_cons_zero, List.set_cons_succ]
      refine wpAnyH_done (by kernel_rfl) ?_ _
      go_wp2
      go_ret
      exact ⟨rfl, HB11.out⟩
  · have h9 : 1048576 < len := by omega
    clear hlen
    go_enter Try.func3, Try.ntmps3
    go_wp2
    go_ret
    exact ⟨rfl, Below.refl _ _⟩

end Go.Proofs.Ytofekmdmooegmaa
