/- The walk of FnJournalBlocksAdd: it returns true and changes nothing that was there. Condition: the codes' bytes lie in memory. -/
import Derived.Test.YtnllejialnkgnaaDrawJ
import Derived.Test.YtnllejialnkgnaaBlkMath
namespace Go.Proofs.Ytnllejialnkgnaa
open Go.RowKit Go.Conc
set_option linter.unusedVariables false

set_option maxHeartbeats 8000000 in
set_option maxRecDepth 100000 in
theorem walkJournalBlocksAdd (A : Option Addr) (len cap : Nat) (A1 : Option Addr) (len1 cap1 : Nat) (w : World) (hI : In w A len cap) (hI1 : In w A1 len1 cap1) :
    Calls Try.prog 4 #[.slice A len cap, .slice A1 len1 cap1] w fun e w' => e = .returned (.bool true) ∧ Below w.heap.size w w' := by
  have hm := hI.len_le
  unfold maxLen at hm
  have hm1 := hI1.len_le
  unfold maxLen at hm1
  have HI := Lib.hid hI
  clear hI
  by_cases hlen : len ≤ 1048576
  · by_cases hlen1 : len1 ≤ 1048576
    · go_enter Try.func4, Try.ntmps4
      go_wp2_with fail
      refine (drawJAdd_any A len cap _ HI.out).mono ?_
      rintro e w1 ⟨X, c, rs, s, r, rfl, ho, hf, hl, hs0, hs1, hrt, hri0, hri1, hb1⟩
      obtain ⟨ri, rt⟩ := r
      have hrt2 : rt.size ≤ 10 := hrt
      have hri2 : -1 ≤ ri := hri0
      have hri3 : ri ≤ 16 := hri1
      have hrm : (⟨ri, rt⟩ : RD).t.size ≤ maxLen := by show rt.size ≤ maxLen; unfold maxLen; omega
      have HRM := Lib.hid hrm
      have PF1 := Lib.hid ho
      have HF := Lib.hid hf
      have HB1 := Lib.hid hb1
      clear ho hf hb1 hrt hri0 hri1 hrm
      obtain ⟨nb, HN⟩ : ∃ v, Hid (rs.length = v) := ⟨_, rfl⟩
      obtain ⟨obs, HO⟩ : ∃ v, Hid (addR rs s ⟨ri, rt⟩ = v) := ⟨_, rfl⟩
      obtain ⟨os, HS⟩ : ∃ v, Hid (addS rs s ⟨ri, rt⟩ = v) := ⟨_, rfl⟩
      obtain ⟨ba, HA⟩ : ∃ v, Hid (addB rs s ⟨ri, rt⟩ = v) := ⟨_, rfl⟩
      obtain ⟨mb, HM⟩ : ∃ v, Hid (obs.length = v) := ⟨_, rfl⟩
      rw [HN.out] at hl ⊢
      obtain ⟨w1a, HW1a⟩ : ∃ Q0, Hid (w1.alloc (.cells #[.slice X nb c, .int .i64 s] 25) = Q0) := ⟨_, rfl⟩
      have hb1a : Below w1.heap.size w1 w1a := by rw [← HW1a.out]; exact (Below.refl _ _).alloc (Nat.le_refl _) _
      have PF1a := Lib.hid (PF1.out.below hb1a)
      have HB1a : Hid (Below w.heap.size w w1a) := HB1.out.trans (hb1a.mono HB1.out.size)
      clear hb1a
      have LF1a : Hid (Blk w1a w1.heap.size 25 #[.slice X nb c, .int .i64 s]) := by rw [← HW1a.out]; exact Blk.new w1 _ _
      obtain ⟨w2, HW2⟩ : ∃ Q0, Hid (w1a.alloc (.cells #[.int .i64 ri, .string rt] 36) = Q0) := ⟨_, rfl⟩
      have hb2 : Below w1a.heap.size w1a w2 := by rw [← HW2.out]; exact (Below.refl _ _).alloc (Nat.le_refl _) _
      have PF2 := Lib.hid (PF1a.out.below hb2)
      have HB2 : Hid (Below w.heap.size w w2) := HB1a.out.trans (hb2.mono HB1a.out.size)
      have LF2 := Lib.hid (LF1a.out.below hb2 LF1a.out.lt)
      clear hb2
      have LR2 : Hid (Blk w2 w1a.heap.size 36 #[.int .i64 ri, .string rt]) := by rw [← HW2.out]; exact Blk.new w1a _ _
      have hz1a : w1a.heap.size = w1.heap.size + 1 := by rw [← HW1a.out]; simp
      rw [hz1a] at LR2
      go_wp2_with fail
      rw [HW1a.out, HW2.out]
      have CI := jadd_any X c s rs ⟨ri, rt⟩ w2 (own_jat PF2.out HF.out) HRM.out
      rw [HN.out, HO.out, HS.out, HA.out] at CI
      refine CI.mono ?_
      rintro e w3 ⟨A3, c3, rfl, ho3, hf3, hb3⟩
      rw [HM.out]
      have PO3 := Lib.hid ho3
      have HFO := Lib.hid hf3
      clear ho3 hf3 CI hz1a
      have PF3 := Lib.hid (PF2.out.below hb3)
      have HB3 : Hid (Below w.heap.size w w3) := HB2.out.trans (hb3.mono HB2.out.size)
      have LF3 := Lib.hid (LF2.out.below hb3 LF2.out.lt)
      have LR3 := Lib.hid (LR2.out.below hb3 LR2.out.lt)
      clear hb3
      have hzLF3 := LF3.out.lt
      have hzLR3 := LR3.out.lt
      obtain ⟨w4, HW4⟩ : ∃ Q0, Hid (w3.alloc (.cells #[.slice A3 mb c3, .int .i64 os] 25) = Q0) := ⟨_, rfl⟩
      have hb4 : Below w3.heap.size w3 w4 := by rw [← HW4.out]; exact (Below.refl _ _).alloc (Nat.le_refl _) _
      have PF4 := Lib.hid (PF3.out.below hb4)
      have HB4 : Hid (Below w.heap.size w w4) := HB3.out.trans (hb4.mono HB3.out.size)
      have LF4 := Lib.hid (LF3.out.below hb4 LF3.out.lt)
      have LR4 := Lib.hid (LR3.out.below hb4 LR3.out.lt)
      have PO4 := Lib.hid (PO3.out.below hb4)
      clear hb4
      have LO4 : Hid (Blk w4 w3.heap.size 25 #[.slice A3 mb c3, .int .i64 os]) := by rw [← HW4.out]; exact Blk.new w3 _ _
      obtain ⟨f0, f1⟩ := jr_cells LF3.out
      obtain ⟨r0, r1⟩ := jr_cells LR3.out
      go_wp2_with fail
      rw [HW4.out]
      have CI := sjadd_any X c s rs ⟨ri, rt⟩ w4 (own_jat PF4.out HF.out) HRM.out
      rw [HN.out, HO.out, HS.out, HA.out] at CI
      refine CI.mono ?_
      rintro e w5 ⟨A5, c5, rfl, ho5, hf5, hb5⟩
      rw [HM.out]
      have PW5 := Lib.hid ho5
      clear ho5 hf5 CI f0 f1 r0 r1
      clear hzLF3
      clear hzLR3
      have PF5 := Lib.hid (PF4.out.below hb5)
      have HB5 : Hid (Below w.heap.size w w5) := HB4.out.trans (hb5.mono HB4.out.size)
      have LF5 := Lib.hid (LF4.out.below hb5 LF4.out.lt)
      have LR5 := Lib.hid (LR4.out.below hb5 LR4.out.lt)
      have PO5 := Lib.hid (PO4.out.below hb5)
      have LO5 := Lib.hid (LO4.out.below hb5 LO4.out.lt)
      clear hb5
      have hzLF5 := LF5.out.lt
      have hzLR5 := LR5.out.lt
      have hzLO5 := LO5.out.lt
      obtain ⟨w6, HW6⟩ : ∃ Q0, Hid (w5.alloc (.cells #[.slice A5 mb c5, .int .i64 os] 25) = Q0) := ⟨_, rfl⟩
      have hb6 : Below w5.heap.size w5 w6 := by rw [← HW6.out]; exact (Below.refl _ _).alloc (Nat.le_refl _) _
      have PF6 := Lib.hid (PF5.out.below hb6)
      have HB6 : Hid (Below w.heap.size w w6) := HB5.out.trans (hb6.mono HB5.out.size)
      have LF6 := Lib.hid (LF5.out.below hb6 LF5.out.lt)
      have LR6 := Lib.hid (LR5.out.below hb6 LR5.out.lt)
      have PO6 := Lib.hid (PO5.out.below hb6)
      have LO6 := Lib.hid (LO5.out.below hb6 LO5.out.lt)
      have PW6 := Lib.hid (PW5.out.below hb6)
      clear hb6
      have LW6 : Hid (Blk w6 w5.heap.size 25 #[.slice A5 mb c5, .int .i64 os]) := by rw [← HW6.out]; exact Blk.new w5 _ _
      obtain ⟨f0, f1⟩ := jr_cells LF5.out
      obtain ⟨r0, r1⟩ := jr_cells LR5.out
      obtain ⟨o0, o1⟩ := jr_cells LO5.out
      have hne : (ba != ba) = false := by simp
      have heq : (ba == ba) = true := by simp
      go_wp2_with fail
      rw [HW6.out]
      clear f0 f1 r0 r1 o0 o1
      clear hzLF5
      clear hzLR5
      clear hzLO5
      refine (sameJ_any A3 c3 A5 c5 obs os w6 (own_jat PO6.out HFO.out) (own_jat PW6.out HFO.out) HM.out).mono ?_
      rintro e w7 ⟨rfl, hb7⟩
      have PF7 := Lib.hid (PF6.out.below hb7)
      have HB7 : Hid (Below w.heap.size w w7) := HB6.out.trans (hb7.mono HB6.out.size)
      have LF7 := Lib.hid (LF6.out.below hb7 LF6.out.lt)
      have LR7 := Lib.hid (LR6.out.below hb7 LR6.out.lt)
      have PO7 := Lib.hid (PO6.out.below hb7)
      have LO7 := Lib.hid (LO6.out.below hb7 LO6.out.lt)
      have PW7 := Lib.hid (PW6.out.below hb7)
      have LW7 := Lib.hid (LW6.out.below hb7 LW6.out.lt)
      clear hb7
      cases ba with
      | false =>
        obtain ⟨o0, o1⟩ := jr_cells LO7.out
        obtain ⟨q0, q1⟩ := jr_cells LW7.out
        go_wp2_with fail
        refine (sameJ_any A3 c3 A5 c5 obs os w7 (own_jat PO7.out HFO.out) (own_jat PW7.out HFO.out) HM.out).mono ?_
        rintro e w8 ⟨rfl, hb8⟩
        have PF8 := Lib.hid (PF7.out.below hb8)
        have HB8 : Hid (Below w.heap.size w w8) := HB7.out.trans (hb8.mono HB7.out.size)
        have LF8 := Lib.hid (LF7.out.below hb8 LF7.out.lt)
        have LR8 := Lib.hid (LR7.out.below hb8 LR7.out.lt)
        have PO8 := Lib.hid (PO7.out.below hb8)
        have LO8 := Lib.hid (LO7.out.below hb8 LO7.out.lt)
        have PW8 := Lib.hid (PW7.out.below hb8)
        have LW8 := Lib.hid (LW7.out.below hb8 LW7.out.lt)
        clear hb8
        go_wp2
        go_ret
        exact ⟨rfl, HB8.out⟩
      | true =>
        obtain ⟨hok, hrc, hlt⟩ := (addB_iff _ _ _).1 HA.out
        obtain ⟨-, hs2, hs3, hall⟩ := (jokB_iff _ _).1 hok
        rw [HN.out] at hlt hs3
        have ho := HO.out
        have hso := HS.out
        unfold addR at ho
        unfold addS at hso
        rw [if_pos ⟨hok, hrc⟩, HN.out, if_pos hlt] at ho
        rw [if_pos ⟨hok, hrc⟩] at hso
        subst hso
        have hok2 : jokB obs s = true := by
          rw [← ho]
          exact (jokB_iff _ _).2 ⟨by rw [List.length_append, HN.out]; show nb + 1 ≤ 20; omega, hs2, by rw [List.length_append, HN.out]; show s ≤ ((nb + 1 : Nat) : Int); omega, allB_snoc hall hrc⟩
        obtain ⟨hr0, hr1, -⟩ := (recB_iff _).1 hrc
        have hr0' : 0 ≤ ri := hr0
        have hr1' : ri < 16 := hr1
        obtain ⟨ix, hix⟩ : ∃ v : Nat, ri = (v : Int) := ⟨ri.toNat, by omega⟩
        subst hix
        have hix16 : ix < 16 := by omega
        have HS2 : Hid (blkS obs 16 = (blkS rs 16).set ix rt) := by show _ = _; rw [← ho, blkS_snoc]; rfl
        have HH2 : Hid (blkH obs 16 = (blkH rs 16).set ix true) := by show _ = _; rw [← ho, blkH_snoc]; rfl
        have CA : Hid (Calls Try.prog 9 #[journalV X nb c s, .int .i64 16] w7 (RetB w7 (blkS rs 16) (blkH rs 16))) := by
          have h := jblocks_any X c s (16 : Nat) rs w7 (own_jat PF7.out HF.out)
          rw [HN.out, (blkA_ok 16 hok (by omega)).1, (blkA_ok 16 hok (by omega)).2] at h
          exact h
        have CB : Hid (∀ U, OwnRow RK U w2.heap.size A3 c3 obs → Calls Try.prog 9 #[journalV A3 mb c3 s, .int .i64 16] U (RetB U (blkS obs 16) (blkH obs 16))) := fun U hU => by
          have h := jblocks_any A3 c3 s (16 : Nat) obs U (own_jat hU HFO.out)
          rw [HM.out, (blkA_ok 16 hok2 (by omega)).1, (blkA_ok 16 hok2 (by omega)).2] at h
          exact h
        clear hok hrc ho hok2 hall hr0 hr1
        obtain ⟨f0, f1⟩ := jr_cells LF7.out
        go_wp2_with fail
        refine CA.out.mono ?_
        rintro e w8 ⟨ga, ca, gx, cx, rfl, hoa, hox, hb8⟩
        rw [blkS_length, blkH_length]
        clear f0 f1 CA
        have HOA8 := Lib.hid hoa
        have HOX8 := Lib.hid hox
        clear hoa hox
        have PF8 := Lib.hid (PF7.out.below hb8)
        have HB8 : Hid (Below w.heap.size w w8) := HB7.out.trans (hb8.mono HB7.out.size)
        have LF8 := Lib.hid (LF7.out.below hb8 LF7.out.lt)
        have LR8 := Lib.hid (LR7.out.below hb8 LR7.out.lt)
        have PO8 := Lib.hid (PO7.out.below hb8)
        have LO8 := Lib.hid (LO7.out.below hb8 LO7.out.lt)
        have PW8 := Lib.hid (PW7.out.below hb8)
        have LW8 := Lib.hid (LW7.out.below hb8 LW7.out.lt)
        clear hb8
        obtain ⟨o0, o1⟩ := jr_cells LO8.out
        go_wp2_with fail
        refine (CB.out _ PO8.out).mono ?_
        rintro e w9 ⟨gb, cb, gy, cy, rfl, hoa, hox, hb9⟩
        rw [blkS_length, blkH_length]
        clear o0 o1 CB
        have HOB9 := Lib.hid hoa
        have HOY9 := Lib.hid hox
        clear hoa hox
        have PF9 := Lib.hid (PF8.out.below hb9)
        have HB9 : Hid (Below w.heap.size w w9) := HB8.out.trans (hb9.mono HB8.out.size)
        have LF9 := Lib.hid (LF8.out.below hb9 LF8.out.lt)
        have LR9 := Lib.hid (LR8.out.below hb9 LR8.out.lt)
        have PO9 := Lib.hid (PO8.out.below hb9)
        have LO9 := Lib.hid (LO8.out.below hb9 LO8.out.lt)
        have PW9 := Lib.hid (PW8.out.below hb9)
        have LW9 := Lib.hid (LW8.out.below hb9 LW8.out.lt)
        have HOA9 := Lib.hid (HOA8.out.below hb9)
        have HOX9 := Lib.hid (HOX8.out.below hb9)
        clear hb9
        go_wp2_with fail
        have HCA : Hid (∀ k, k < 16 → w9.cell? ⟨ga, k, none⟩ = some (.string (sth (blkS rs 16) k)) ∧ w9.cell? ⟨gb, k, none⟩ = some (.string (sth (blkS obs 16) k)) ∧ w9.cell? ⟨gx, k, none⟩ = some (.bool (bth (blkH rs 16) k)) ∧ w9.cell? ⟨gy, k, none⟩ = some (.bool (bth (blkH obs 16) k))) := fun k hk => by
          have a1 := (HOA9.out.ints.lt (by rw [blkS_length]; omega)).2 k (by rw [blkS_length]; exact hk)
          have a2 := (HOB9.out.ints.lt (by rw [blkS_length]; omega)).2 k (by rw [blkS_length]; exact hk)
          have a3 := (HOX9.out.ints.lt (by rw [blkH_length]; omega)).2 k (by rw [blkH_length]; exact hk)
          have a4 := (HOY9.out.ints.lt (by rw [blkH_length]; omega)).2 k (by rw [blkH_length]; exact hk)
          rw [Nat.zero_add] at a1 a2 a3 a4
          exact ⟨a1, a2, a3, a4⟩
        have hx0 : (0 : Int) ≤ (ix : Int) := by omega
        have hx1 : (ix : Int) < 16 := by omega
        go_loopw [16] (fun i w' => ∃ k : Nat, k ≤ 16 ∧ i = .int .i64 k ∧ ∃ q, w' = w9.drewN q) (fun i _ => 16 - (intOf i).toNat)
        case atStart => exact ⟨0, Nat.zero_le _, rfl, 0, rfl⟩
        case round =>
          obtain ⟨k, hk, rfl, q, rfl⟩ := hrel
          obtain ⟨r0, r1⟩ := jr_cells LR9.out
          by_cases hlt : k < 16
          · obtain ⟨a1, a2, a3, a4⟩ := HCA.out k hlt
            have hk0 : (0 : Int) ≤ (k : Int) := by omega
            have hki : (k : Int) < 16 := by omega
            by_cases hkx : k = ix
            · subst hkx
              have hn : ((k : Int) != (k : Int)) = false := by simp
              clear a1 a2 a3 a4
              go_wp2_with fail
              go_quiet (fail)
              go_wp2
              go_roundw
              case rel => exact ⟨k + 1, by omega, by go_num, _, rfl⟩
              case measure => simp [intOf]; omega
            · have hn : ((k : Int) != (ix : Int)) = true := by simp; omega
              rw [HS2.out, sth_other _ _ _ _ hkx] at a2
              rw [HH2.out, bth_other _ _ _ _ hkx] at a4
              obtain ⟨zt, HZT⟩ : ∃ x, Hid (sth (blkS rs 16) k = x) := ⟨_, rfl⟩
              obtain ⟨zb, HZB⟩ : ∃ x, Hid (bth (blkH rs 16) k = x) := ⟨_, rfl⟩
              rw [HZT.out] at a1 a2
              rw [HZB.out] at a3 a4
              have hz1 : (zt.toList != zt.toList) = false := by simp
              have hz2 : (zb != zb) = false := by simp
              go_wp2_with fail
              go_quiet (fail)
              go_wp2
              go_roundw
              case rel => exact ⟨k + 1, by omega, by go_num, _, rfl⟩
              case measure => simp [intOf]; omega
          · have hkm : k = 16 := by omega
            subst hkm
            have HBQ := Lib.hid (below_drewN HB9.out q)
            obtain ⟨a1, a2, a3, a4⟩ := HCA.out ix hix16
            rw [HS2.out, sth_at _ _ _ (by rw [blkS_length]; exact hix16)] at a2
            rw [HH2.out, bth_at _ _ _ (by rw [blkH_length]; exact hix16)] at a4
            have hz1 : (rt.toList == rt.toList) = true := by simp
            have hm9 : (0 : Int) ≤ (len1 : Int) := by omega
            clear a1 a3
            go_wp2_with fail
            go_quiet (fail)
            go_wp2
            go_ret
            exact ⟨ret_bool (by simp), below_drewN HBQ.out _⟩
    · have h9 : 1048576 < len1 := by omega
      clear hlen1
      go_enter Try.func4, Try.ntmps4
      go_wp2
      go_ret
      exact ⟨rfl, Below.refl _ _⟩
  · have h9 : 1048576 < len := by omega
    clear hlen
    go_enter Try.func4, Try.ntmps4
    go_wp2
    go_ret
    exact ⟨rfl, Below.refl _ _⟩

end Go.Proofs.Ytnllejialnkgnaa
