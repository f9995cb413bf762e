/- The walk of FnJournalBlocksKept: it returns true and changes nothing that was there. Condition: the codes' bytes lie in memory. -/
import Derived.Test.YtnllejialnkgnaaDrawJ
import Derived.Test.YtnllejialnkgnaaBlkMath
namespace Go.Proofs.Ytnllejialnkgnaa
open Go.RowKit Go.Conc
set_option linter.unusedVariables false

set_option maxHeartbeats 8000000 in
set_option maxRecDepth 100000 in
theorem walkJournalBlocksKept (A : Option Addr) (len cap : Nat) (A1 : Option Addr) (len1 cap1 : Nat) (w : World) (hI : In w A len cap) (hI1 : In w A1 len1 cap1) :
    Calls Try.prog 5 #[.slice A len cap, .slice A1 len1 cap1] w fun e w' => e = .returned (.bool true) ∧ Below w.heap.size w w' := by
  have hm := hI.len_le
  unfold maxLen at hm
  have hm1 := hI1.len_le
  unfold maxLen at hm1
  have HI := Lib.hid hI
  clear hI
  by_cases hlen : len ≤ 1048576
  · by_cases hlen1 : len1 ≤ 1048576
    · go_enter Try.func5, Try.ntmps5
      go_wp2_with fail
      refine (drawJCrash_any A len cap _ HI.out).mono ?_
      rintro e w1 ⟨X, c, rs, s, kp, rfl, ho, hf, hl, hs0, hs1, hk0, hk1, hb1⟩
      have PF1 := Lib.hid ho
      have HF := Lib.hid hf
      have HB1 := Lib.hid hb1
      clear ho hf hb1
      obtain ⟨nb, HN⟩ : ∃ v, Hid (rs.length = v) := ⟨_, rfl⟩
      obtain ⟨obs, HO⟩ : ∃ v, Hid (crashR rs s kp = v) := ⟨_, rfl⟩
      obtain ⟨os, HS⟩ : ∃ v, Hid (crashS rs s kp = v) := ⟨_, rfl⟩
      obtain ⟨mb, HM⟩ : ∃ v, Hid (obs.length = v) := ⟨_, rfl⟩
      rw [HN.out] at hl ⊢
      obtain ⟨w2, HW2⟩ : ∃ Q0, Hid (w1.alloc (.cells #[.slice X nb c, .int .i64 s] 25) = Q0) := ⟨_, rfl⟩
      have hb2 : Below w1.heap.size w1 w2 := by rw [← HW2.out]; exact (Below.refl _ _).alloc (Nat.le_refl _) _
      have PF2 := Lib.hid (PF1.out.below hb2)
      have HB2 : Hid (Below w.heap.size w w2) := HB1.out.trans (hb2.mono HB1.out.size)
      clear hb2
      have LF2 : Hid (Blk w2 w1.heap.size 25 #[.slice X nb c, .int .i64 s]) := by rw [← HW2.out]; exact Blk.new w1 _ _
      go_wp2_with fail
      rw [HW2.out]
      have CI := jcrash_any X c s kp rs w2 (own_jat PF2.out HF.out)
      rw [HN.out, HO.out, HS.out] at CI
      refine CI.mono ?_
      rintro e w3 ⟨A3, c3, rfl, ho3, hf3, hb3⟩
      rw [HM.out]
      have PO3 := Lib.hid ho3
      have HFO := Lib.hid hf3
      clear ho3 hf3 CI
      have PF3 := Lib.hid (PF2.out.below hb3)
      have HB3 : Hid (Below w.heap.size w w3) := HB2.out.trans (hb3.mono HB2.out.size)
      have LF3 := Lib.hid (LF2.out.below hb3 LF2.out.lt)
      clear hb3
      have hzLF3 := LF3.out.lt
      obtain ⟨w4, HW4⟩ : ∃ Q0, Hid (w3.alloc (.cells #[.slice A3 mb c3, .int .i64 os] 25) = Q0) := ⟨_, rfl⟩
      have hb4 : Below w3.heap.size w3 w4 := by rw [← HW4.out]; exact (Below.refl _ _).alloc (Nat.le_refl _) _
      have PF4 := Lib.hid (PF3.out.below hb4)
      have HB4 : Hid (Below w.heap.size w w4) := HB3.out.trans (hb4.mono HB3.out.size)
      have LF4 := Lib.hid (LF3.out.below hb4 LF3.out.lt)
      have PO4 := Lib.hid (PO3.out.below hb4)
      clear hb4
      have LO4 : Hid (Blk w4 w3.heap.size 25 #[.slice A3 mb c3, .int .i64 os]) := by rw [← HW4.out]; exact Blk.new w3 _ _
      obtain ⟨f0, f1⟩ := jr_cells LF3.out
      go_wp2_with fail
      rw [HW4.out]
      have CI := sjcrash_any X c s kp rs w4 (own_jat PF4.out HF.out)
      rw [HN.out, HO.out, HS.out] at CI
      refine CI.mono ?_
      rintro e w5 ⟨A5, c5, rfl, ho5, hf5, hb5⟩
      rw [HM.out]
      have PW5 := Lib.hid ho5
      clear ho5 hf5 CI f0 f1 hzLF3
      have PF5 := Lib.hid (PF4.out.below hb5)
      have HB5 : Hid (Below w.heap.size w w5) := HB4.out.trans (hb5.mono HB4.out.size)
      have LF5 := Lib.hid (LF4.out.below hb5 LF4.out.lt)
      have PO5 := Lib.hid (PO4.out.below hb5)
      have LO5 := Lib.hid (LO4.out.below hb5 LO4.out.lt)
      clear hb5
      have hzLF5 := LF5.out.lt
      have hzLO5 := LO5.out.lt
      obtain ⟨w6, HW6⟩ : ∃ Q0, Hid (w5.alloc (.cells #[.slice A5 mb c5, .int .i64 os] 25) = Q0) := ⟨_, rfl⟩
      have hb6 : Below w5.heap.size w5 w6 := by rw [← HW6.out]; exact (Below.refl _ _).alloc (Nat.le_refl _) _
      have PF6 := Lib.hid (PF5.out.below hb6)
      have HB6 : Hid (Below w.heap.size w w6) := HB5.out.trans (hb6.mono HB5.out.size)
      have LF6 := Lib.hid (LF5.out.below hb6 LF5.out.lt)
      have PO6 := Lib.hid (PO5.out.below hb6)
      have LO6 := Lib.hid (LO5.out.below hb6 LO5.out.lt)
      have PW6 := Lib.hid (PW5.out.below hb6)
      clear hb6
      have LW6 : Hid (Blk w6 w5.heap.size 25 #[.slice A5 mb c5, .int .i64 os]) := by rw [← HW6.out]; exact Blk.new w5 _ _
      obtain ⟨f0, f1⟩ := jr_cells LF5.out
      obtain ⟨o0, o1⟩ := jr_cells LO5.out
      go_wp2_with fail
      rw [HW6.out]
      clear f0 f1 o0 o1 hzLF5 hzLO5
      refine (sameJ_any A3 c3 A5 c5 obs os w6 (own_jat PO6.out HFO.out) (own_jat PW6.out HFO.out) HM.out).mono ?_
      rintro e w7 ⟨rfl, hb7⟩
      have PF7 := Lib.hid (PF6.out.below hb7)
      have HB7 : Hid (Below w.heap.size w w7) := HB6.out.trans (hb7.mono HB6.out.size)
      have LF7 := Lib.hid (LF6.out.below hb7 LF6.out.lt)
      have PO7 := Lib.hid (PO6.out.below hb7)
      have LO7 := Lib.hid (LO6.out.below hb7 LO6.out.lt)
      have PW7 := Lib.hid (PW6.out.below hb7)
      have LW7 := Lib.hid (LW6.out.below hb7 LW6.out.lt)
      clear hb7
      have CV := sjvalid_any X c s rs w7 (own_jat PF7.out HF.out)
      rw [HN.out] at CV
      have HCV := Lib.hid CV
      clear CV
      obtain ⟨f0, f1⟩ := jr_cells LF7.out
      go_wp2_with fail
      refine HCV.out.mono ?_
      rintro e w8 ⟨rfl, hb8⟩
      clear f0 f1 HCV
      have PF8 := Lib.hid (PF7.out.below hb8)
      have HB8 : Hid (Below w.heap.size w w8) := HB7.out.trans (hb8.mono HB7.out.size)
      have LF8 := Lib.hid (LF7.out.below hb8 LF7.out.lt)
      have PO8 := Lib.hid (PO7.out.below hb8)
      have LO8 := Lib.hid (LO7.out.below hb8 LO7.out.lt)
      have PW8 := Lib.hid (PW7.out.below hb8)
      have LW8 := Lib.hid (LW7.out.below hb8 LW7.out.lt)
      clear hb8
      cases hv : jokB rs s with
      | false =>
        obtain ⟨o0, o1⟩ := jr_cells LO8.out
        obtain ⟨q0, q1⟩ := jr_cells LW8.out
        go_wp2_with fail
        refine (sameJ_any A3 c3 A5 c5 obs os w8 (own_jat PO8.out HFO.out) (own_jat PW8.out HFO.out) HM.out).mono ?_
        rintro e w9 ⟨rfl, hb9⟩
        have PF9 := Lib.hid (PF8.out.below hb9)
        have HB9 : Hid (Below w.heap.size w w9) := HB8.out.trans (hb9.mono HB8.out.size)
        have LF9 := Lib.hid (LF8.out.below hb9 LF8.out.lt)
        have PO9 := Lib.hid (PO8.out.below hb9)
        have LO9 := Lib.hid (LO8.out.below hb9 LO8.out.lt)
        have PW9 := Lib.hid (PW8.out.below hb9)
        have LW9 := Lib.hid (LW8.out.below hb9 LW8.out.lt)
        clear hb9
        go_wp2
        go_ret
        exact ⟨rfl, HB9.out⟩
      | true =>
        by_cases hkp : 0 ≤ kp
        · have hkp1 : ¬ kp < 0 := by omega
          have ho := HO.out
          have hso := HS.out
          unfold crashR at ho
          unfold crashS at hso
          rw [if_pos ⟨hv, hkp⟩] at ho
          rw [if_pos ⟨hv, hkp⟩] at hso
          obtain ⟨h20, hv2, hv3, hall⟩ := (jokB_iff _ _).1 hv
          rw [HN.out] at h20 hv3
          have hkd : ((keepN rs s kp : Nat) : Int) = s + min kp ((nb : Int) - s) := by unfold keepN; rw [HN.out]; omega
          have hkn : keepN rs s kp ≤ nb := by omega
          have hmb : keepN rs s kp = mb := by rw [← HM.out, ← ho, List.length_take, HN.out]; omega
          rw [hmb] at hso ho hkn hkd
          subst hso
          have HTK : Hid (rs.take mb = obs) := ho
          have hokO : jokB obs (mb : Int) = true := (jokB_iff _ _).2 ⟨by rw [HM.out]; omega, by omega, by rw [HM.out]; omega, by rw [← ho]; exact allB_take hall _⟩
          obtain ⟨sn, hsn⟩ : ∃ v : Nat, s = (v : Int) := ⟨s.toNat, by omega⟩
          subst hsn
          have hsm : sn ≤ mb := by omega
          have HAL := Lib.hid ((allB_iff _).1 hall)
          have CC : Hid (Calls Try.prog 9 #[journalV A3 mb c3 (mb : Int), .int .i64 16] w8 (RetB w8 (blkS obs 16) (blkH obs 16))) := by
            have h := jblocks_any A3 c3 (mb : Int) (16 : Nat) obs w8 (own_jat PO8.out HFO.out)
            rw [HM.out, (blkA_ok 16 hokO (by omega)).1, (blkA_ok 16 hokO (by omega)).2] at h
            exact h
          clear ho hv h20 hkd hmb hall hokO
          obtain ⟨o0, o1⟩ := jr_cells LO8.out
          go_wp2_with fail
          refine CC.out.mono ?_
          rintro e w9 ⟨g1, c1, g2, c2, rfl, -, hob, hb9⟩
          rw [blkS_length, blkH_length]
          clear o0 o1 CC
          have HOB := Lib.hid hob
          clear hob
          have PF9 := Lib.hid (PF8.out.below hb9)
          have HB9 : Hid (Below w.heap.size w w9) := HB8.out.trans (hb9.mono HB8.out.size)
          have LF9 := Lib.hid (LF8.out.below hb9 LF8.out.lt)
          have PO9 := Lib.hid (PO8.out.below hb9)
          have LO9 := Lib.hid (LO8.out.below hb9 LO8.out.lt)
          have PW9 := Lib.hid (PW8.out.below hb9)
          have LW9 := Lib.hid (LW8.out.below hb9 LW8.out.lt)
          clear hb9
          obtain ⟨f0, f1⟩ := jr_cells LF9.out
          go_wp2_with fail
          go_loopw [11] (fun i w' => ∃ k : Nat, k ≤ sn ∧ i = .int .i64 k ∧ ∃ q, w' = w9.drewN q) (fun i _ => sn - (intOf i).toNat)
          case atStart => exact ⟨0, Nat.zero_le _, rfl, 0, rfl⟩
          case round =>
            obtain ⟨k, hk, rfl, q, rfl⟩ := hrel
            by_cases hlt : k < sn
            · have hkm : k < mb := by omega
              have hkz : k < obs.length := by rw [HM.out]; omega
              have hkr : k < rs.length := by rw [HN.out]; omega
              have HEQ : Hid (rth obs k = rth rs k) := by show _ = _; rw [← HTK.out]; exact rth_take rs mb k hkm
              have jb := own_jat PF9.out HF.out
              obtain ⟨b', o', rfl⟩ := jb.row.some_ (by omega)
              obtain ⟨c0', d0'⟩ := rec_cells jb.row k hkr
              obtain ⟨hr0, hr1, -⟩ := (recB_iff _).1 (HAL.out k hkr)
              obtain ⟨ix, hix⟩ : ∃ v : Nat, (rth rs k).i = (v : Int) := ⟨(rth rs k).i.toNat, by omega⟩
              have hix16 : ix < 16 := by omega
              have hth := blkH_there obs 16 k hkz (by rw [HEQ.out, hix]; omega)
              rw [HEQ.out, hix, Int.toNat_natCast] at hth
              have hbc := (HOB.out.ints.lt (by rw [blkH_length]; omega)).2 ix (by rw [blkH_length]; exact hix16)
              rw [Nat.zero_add, hth] at hbc
              rw [hix] at c0'
              have hk0 : (0 : Int) ≤ (k : Int) := by omega
              have hki : (k : Int) < (sn : Int) := by omega
              have hki2 : (k : Int) < (nb : Int) := by omega
              have hx0 : (0 : Int) ≤ (ix : Int) := by omega
              have hx1 : (ix : Int) < 16 := by omega
              clear hkz hkr jb hr0 hr1 hth hix
              go_wp2
              go_roundw
              case rel => exact ⟨k + 1, by omega, by go_num, _, rfl⟩
              case measure => simp [intOf]; omega
            · have hkm : k = sn := by omega
              subst hkm
              have HBQ := Lib.hid (below_drewN HB9.out q)
              go_wp2
              go_ret
              exact ⟨ret_bool (by simp), HBQ.out⟩
        · have hkp1 : kp < 0 := by omega
          obtain ⟨o0, o1⟩ := jr_cells LO8.out
          obtain ⟨q0, q1⟩ := jr_cells LW8.out
          go_wp2_with fail
          refine (sameJ_any A3 c3 A5 c5 obs os w8 (own_jat PO8.out HFO.out) (own_jat PW8.out HFO.out) HM.out).mono ?_
          rintro e w9 ⟨rfl, hb9⟩
          have PF9 := Lib.hid (PF8.out.below hb9)
          have HB9 : Hid (Below w.heap.size w w9) := HB8.out.trans (hb9.mono HB8.out.size)
          have LF9 := Lib.hid (LF8.out.below hb9 LF8.out.lt)
          have PO9 := Lib.hid (PO8.out.below hb9)
          have LO9 := Lib.hid (LO8.out.below hb9 LO8.out.lt)
          have PW9 := Lib.hid (PW8.out.below hb9)
          have LW9 := Lib.hid (LW8.out.below hb9 LW8.out.lt)
          clear hb9
          go_wp2
          go_ret
          exact ⟨rfl, HB9.out⟩
    · have h9 : 1048576 < len1 := by omega
      clear hlen1
      go_enter Try.func5, Try.ntmps5
      go_wp2
      go_ret
      exact ⟨rfl, Below.refl _ _⟩
  · have h9 : 1048576 < len := by omega
    clear hlen
    go_enter Try.func5, Try.ntmps5
    go_wp2
    go_ret
    exact ⟨rfl, Below.refl _ _⟩

end Go.Proofs.Ytnllejialnkgnaa
