/- The walk of FnJournalPart: it returns true and changes nothing that was there. Condition: the codes' bytes lie in memory. -/
import Derived.Test.YtnllejialnkgnaaDrawJ
import Derived.Test.YtnllejialnkgnaaBlkMath
import Derived.Test.YtnllejialnkgnaaDrawJB
import Derived.Test.YtnllejialnkgnaaSJBlocks
namespace Go.Proofs.Ytnllejialnkgnaa
open Go.RowKit Go.Conc
set_option linter.unusedVariables false

set_option maxHeartbeats 8000000 in
set_option maxRecDepth 100000 in
theorem walkJournalPart (A : Option Addr) (len cap : Nat) (A1 : Option Addr) (len1 cap1 : Nat) (w : World) (hI : In w A len cap) (hI1 : In w A1 len1 cap1) :
    Calls Try.prog 6 #[.slice A len cap, .slice A1 len1 cap1] w fun e w' => e = .returned (.bool true) ∧ Below w.heap.size w w' := by
  have hm := hI.len_le
  unfold maxLen at hm
  have hm1 := hI1.len_le
  unfold maxLen at hm1
  have HI := Lib.hid hI
  clear hI
  by_cases hlen : len ≤ 1048576
  · by_cases hlen1 : len1 ≤ 1048576
    · go_enter Try.func6, Try.ntmps6
      go_wp2_with fail
      refine (drawJBlocks_any A len cap _ HI.out).mono ?_
      rintro e w1 ⟨X, c, rs, s, ln, rfl, ho, hf, hl, hs0, hs1, hk0, hk1, hb1⟩
      have PF1 := Lib.hid ho
      have HF := Lib.hid hf
      have HB1 := Lib.hid hb1
      clear ho hf hb1
      obtain ⟨nb, HN⟩ : ∃ v, Hid (rs.length = v) := ⟨_, rfl⟩
      obtain ⟨bs, HBS⟩ : ∃ v, Hid (blkA rs s ln = v) := ⟨_, rfl⟩
      obtain ⟨hs, HHS⟩ : ∃ v, Hid (blkB rs s ln = v) := ⟨_, rfl⟩
      obtain ⟨mb, HM⟩ : ∃ v, Hid (bs.length = v) := ⟨_, rfl⟩
      have HM2 : Hid (hs.length = mb) := by show _ = _; rw [← HM.out, ← HBS.out, ← HHS.out]; exact (blk_lens rs s ln).1.symm
      have HML : Hid (bs.length ≤ maxLen) := by show _ ≤ _; rw [← HBS.out]; exact (blk_lens rs s ln).2
      have HML2 : Hid (hs.length ≤ maxLen) := by show _ ≤ _; rw [HM2.out, ← HM.out]; exact HML.out
      rw [HN.out] at hl ⊢
      obtain ⟨w2, HW2⟩ : ∃ Q0, Hid (w1.alloc (.cells #[.slice X nb c, .int .i64 s] 25) = Q0) := ⟨_, rfl⟩
      have hb2 : Below w1.heap.size w1 w2 := by rw [← HW2.out]; exact (Below.refl _ _).alloc (Nat.le_refl _) _
      have PF2 := Lib.hid (PF1.out.below hb2)
      have HB2 : Hid (Below w.heap.size w w2) := HB1.out.trans (hb2.mono HB1.out.size)
      clear hb2
      have LF2 : Hid (Blk w2 w1.heap.size 25 #[.slice X nb c, .int .i64 s]) := by rw [← HW2.out]; exact Blk.new w1 _ _
      go_wp2_with fail
      rw [HW2.out]
      have CI := jblocks_any X c s ln rs w2 (own_jat PF2.out HF.out)
      rw [HN.out, HBS.out, HHS.out] at CI
      refine CI.mono ?_
      rintro e w3 ⟨g1, c1, g2, c2, rfl, hoa, hob, hb3⟩
      rw [HM.out, HM2.out]
      have PA3 := Lib.hid hoa
      have PB3 := Lib.hid hob
      clear hoa hob CI
      have PF3 := Lib.hid (PF2.out.below hb3)
      have HB3 : Hid (Below w.heap.size w w3) := HB2.out.trans (hb3.mono HB2.out.size)
      have LF3 := Lib.hid (LF2.out.below hb3 LF2.out.lt)
      clear hb3
      obtain ⟨f0, f1⟩ := jr_cells LF3.out
      go_wp2_with fail
      clear f0 f1
      have CI := sjblocks_any X c s ln rs w3 (own_jat PF3.out HF.out)
      rw [HN.out, HBS.out, HHS.out] at CI
      refine CI.mono ?_
      rintro e w4 ⟨g3, c3, g4, c4, rfl, hoa, hob, hb4⟩
      rw [HM.out, HM2.out]
      have PC4 := Lib.hid hoa
      have PD4 := Lib.hid hob
      clear hoa hob CI
      have PF4 := Lib.hid (PF3.out.below hb4)
      have HB4 : Hid (Below w.heap.size w w4) := HB3.out.trans (hb4.mono HB3.out.size)
      have LF4 := Lib.hid (LF3.out.below hb4 LF3.out.lt)
      have PA4 := Lib.hid (PA3.out.below hb4)
      have PB4 := Lib.hid (PB3.out.below hb4)
      clear hb4
      go_wp2_with fail
      have CS := sames_any (some ⟨g1, 0, none⟩) c1 bs (some ⟨g3, 0, none⟩) c3 bs w4 PA4.out.ints PC4.out.ints HML.out HML.out
      rw [HM.out, decide_eq_true rfl] at CS
      refine CS.mono ?_
      rintro e ws ⟨rfl, q, rfl⟩
      clear CS
      obtain ⟨w5, HW5⟩ : ∃ Q0, Hid (w4.drewN q = Q0) := ⟨_, rfl⟩
      have hb5 : Below w4.heap.size w4 w5 := by rw [← HW5.out]; exact below_drewN (Below.refl _ _) q
      rw [HW5.out]
      have PF5 := Lib.hid (PF4.out.below hb5)
      have HB5 : Hid (Below w.heap.size w w5) := HB4.out.trans (hb5.mono HB4.out.size)
      have LF5 := Lib.hid (LF4.out.below hb5 LF4.out.lt)
      have PA5 := Lib.hid (PA4.out.below hb5)
      have PB5 := Lib.hid (PB4.out.below hb5)
      have PC5 := Lib.hid (PC4.out.below hb5)
      have PD5 := Lib.hid (PD4.out.below hb5)
      clear hb5
      go_wp2_with fail
      have CS := sameb_any (some ⟨g2, 0, none⟩) c2 hs (some ⟨g4, 0, none⟩) c4 hs w5 PB5.out.ints PD5.out.ints HML2.out HML2.out
      rw [HM2.out, decide_eq_true rfl] at CS
      refine CS.mono ?_
      rintro e ws ⟨rfl, q, rfl⟩
      clear CS
      obtain ⟨w6, HW6⟩ : ∃ Q0, Hid (w5.drewN q = Q0) := ⟨_, rfl⟩
      have hb6 : Below w5.heap.size w5 w6 := by rw [← HW6.out]; exact below_drewN (Below.refl _ _) q
      rw [HW6.out]
      have PF6 := Lib.hid (PF5.out.below hb6)
      have HB6 : Hid (Below w.heap.size w w6) := HB5.out.trans (hb6.mono HB5.out.size)
      have LF6 := Lib.hid (LF5.out.below hb6 LF5.out.lt)
      have PA6 := Lib.hid (PA5.out.below hb6)
      have PB6 := Lib.hid (PB5.out.below hb6)
      have PC6 := Lib.hid (PC5.out.below hb6)
      have PD6 := Lib.hid (PD5.out.below hb6)
      clear hb6
      have CV := sjvalid_any X c s rs w6 (own_jat PF6.out HF.out)
      rw [HN.out] at CV
      have HCV := Lib.hid CV
      clear CV
      obtain ⟨f0, f1⟩ := jr_cells LF6.out
      go_wp2_with fail
      refine HCV.out.mono ?_
      rintro e w7 ⟨rfl, hb7⟩
      clear f0 f1 HCV
      have PF7 := Lib.hid (PF6.out.below hb7)
      have HB7 : Hid (Below w.heap.size w w7) := HB6.out.trans (hb7.mono HB6.out.size)
      have LF7 := Lib.hid (LF6.out.below hb7 LF6.out.lt)
      have PA7 := Lib.hid (PA6.out.below hb7)
      have PB7 := Lib.hid (PB6.out.below hb7)
      have PC7 := Lib.hid (PC6.out.below hb7)
      have PD7 := Lib.hid (PD6.out.below hb7)
      clear hb7
      cases hv : jokB rs s with
      | false =>
        go_wp2_with fail
        have CS := sames_any (some ⟨g1, 0, none⟩) c1 bs (some ⟨g3, 0, none⟩) c3 bs w7 PA7.out.ints PC7.out.ints HML.out HML.out
        rw [HM.out, decide_eq_true rfl] at CS
        refine CS.mono ?_
        rintro e ws ⟨rfl, q, rfl⟩
        clear CS
        obtain ⟨w8, HW8⟩ : ∃ Q0, Hid (w7.drewN q = Q0) := ⟨_, rfl⟩
        have hb8 : Below w7.heap.size w7 w8 := by rw [← HW8.out]; exact below_drewN (Below.refl _ _) q
        rw [HW8.out]
        have PF8 := Lib.hid (PF7.out.below hb8)
        have HB8 : Hid (Below w.heap.size w w8) := HB7.out.trans (hb8.mono HB7.out.size)
        have LF8 := Lib.hid (LF7.out.below hb8 LF7.out.lt)
        have PA8 := Lib.hid (PA7.out.below hb8)
        have PB8 := Lib.hid (PB7.out.below hb8)
        have PC8 := Lib.hid (PC7.out.below hb8)
        have PD8 := Lib.hid (PD7.out.below hb8)
        clear hb8
        go_wp2_with fail
        have CS := sameb_any (some ⟨g2, 0, none⟩) c2 hs (some ⟨g4, 0, none⟩) c4 hs w8 PB8.out.ints PD8.out.ints HML2.out HML2.out
        rw [HM2.out, decide_eq_true rfl] at CS
        refine CS.mono ?_
        rintro e ws ⟨rfl, q, rfl⟩
        clear CS
        obtain ⟨w9, HW9⟩ : ∃ Q0, Hid (w8.drewN q = Q0) := ⟨_, rfl⟩
        have hb9 : Below w8.heap.size w8 w9 := by rw [← HW9.out]; exact below_drewN (Below.refl _ _) q
        rw [HW9.out]
        have PF9 := Lib.hid (PF8.out.below hb9)
        have HB9 : Hid (Below w.heap.size w w9) := HB8.out.trans (hb9.mono HB8.out.size)
        have LF9 := Lib.hid (LF8.out.below hb9 LF8.out.lt)
        have PA9 := Lib.hid (PA8.out.below hb9)
        have PB9 := Lib.hid (PB8.out.below hb9)
        have PC9 := Lib.hid (PC8.out.below hb9)
        have PD9 := Lib.hid (PD8.out.below hb9)
        clear hb9
        go_wp2
        go_ret
        exact ⟨rfl, HB9.out⟩
      | true =>
        by_cases hl0 : 0 ≤ ln
        · have hl0i : ¬ ln < 0 := by omega
          by_cases hl1 : ln ≤ 16
          · have hl1i : ¬ 16 < ln := by omega
            obtain ⟨n, hn⟩ : ∃ v : Nat, ln = (v : Int) := ⟨ln.toNat, by omega⟩
            subst hn
            have hn16 : n ≤ 16 := by omega
            have HB1S : Hid (bs = blkS rs n) := by show _ = _; rw [← HBS.out]; exact (blkA_ok n hv hn16).1
            have HB1H : Hid (hs = blkH rs n) := by show _ = _; rw [← HHS.out]; exact (blkA_ok n hv hn16).2
            have hmn : mb = n := by rw [← HM.out, HB1S.out, blkS_length]
            subst hmn
            obtain ⟨kk, hkk⟩ : ∃ v : Nat, len1 % (mb + 1) = v := ⟨_, rfl⟩
            have hkm : kk ≤ mb := by have := Nat.mod_lt len1 (show 0 < mb + 1 by omega); omega
            have hrem : ((len1 : Nat) : Int).tmod ((mb : Int) + 1) = (kk : Int) := by rw [← hkk]; exact tmodn len1 mb
            have hnz : ¬ (mb : Int) + 1 = 0 := by omega
            have hnz2 : ((mb : Int) + 1 == 0) = false := by simp; omega
            have hwn : IntKind.i64.wrap ((mb : Int) + 1) = (mb : Int) + 1 := IntWalk.i64_in _ (by omega)
            have hwk : IntKind.i64.wrap (kk : Int) = (kk : Int) := IntWalk.i64_in _ (by omega)
            have hcap1 := PA7.out.le
            have hcap2 := PB7.out.le
            rw [HM.out] at hcap1
            rw [HM2.out] at hcap2
            unfold maxLen at hcap1 hcap2
            have hq0 : (0 : Int) ≤ (kk : Int) := by omega
            have hq1 : (kk : Int) ≤ (c1 : Int) := by omega
            have hq2 : (kk : Int) ≤ (c2 : Int) := by omega
            have CB : Hid (Calls Try.prog 9 #[journalV X nb c s, .int .i64 (kk : Int)] w7 (RetB w7 (blkS rs kk) (blkH rs kk))) := by
              have h := jblocks_any X c s (kk : Int) rs w7 (own_jat PF7.out HF.out)
              rw [HN.out, (blkA_ok kk hv (by omega)).1, (blkA_ok kk hv (by omega)).2] at h
              exact h
            obtain ⟨f0, f1⟩ := jr_cells LF7.out
            go_wp2_with fail
            refine CB.out.mono ?_
            rintro e w8 ⟨g5, c5, g6, c6, rfl, hoa, hob, hb8⟩
            rw [blkS_length, blkH_length]
            have PE8 := Lib.hid hoa
            have PG8 := Lib.hid hob
            clear hoa hob f0 f1 CB
            have PF8 := Lib.hid (PF7.out.below hb8)
            have HB8 : Hid (Below w.heap.size w w8) := HB7.out.trans (hb8.mono HB7.out.size)
            have LF8 := Lib.hid (LF7.out.below hb8 LF7.out.lt)
            have PA8 := Lib.hid (PA7.out.below hb8)
            have PB8 := Lib.hid (PB7.out.below hb8)
            have PC8 := Lib.hid (PC7.out.below hb8)
            have PD8 := Lib.hid (PD7.out.below hb8)
            clear hb8
            have hta : (bs.take kk).length = kk := by rw [List.length_take, HM.out]; omega
            have htb : (hs.take kk).length = kk := by rw [List.length_take, HM2.out]; omega
            have hde : decide (blkS rs kk = bs.take kk) = true := decide_eq_true (by rw [HB1S.out, blkS_take rs hkm])
            have hdf : decide (blkH rs kk = hs.take kk) = true := decide_eq_true (by rw [HB1H.out, blkH_take rs hkm])
            have CS1 : Hid (Calls Try.prog 11 #[.slice (some ⟨g5, 0, none⟩) kk c5, .slice (some ⟨g1, 0, none⟩) kk c1] w8 fun e w' => e = .returned (.bool true) ∧ ∃ q, w' = w8.drewN q) := by
              have h := sames_any (some ⟨g5, 0, none⟩) c5 (blkS rs kk) (some ⟨g1, 0, none⟩) c1 (bs.take kk) w8 PE8.out.ints (PA8.out.ints.first kk) (by rw [blkS_length]; unfold maxLen; omega) (by rw [hta]; unfold maxLen; omega)
              rw [blkS_length, hta, hde] at h
              exact h
            have CS2 : Hid (∀ q, Calls Try.prog 12 #[.slice (some ⟨g6, 0, none⟩) kk c6, .slice (some ⟨g2, 0, none⟩) kk c2] (w8.drewN q) fun e w' => e = .returned (.bool true) ∧ ∃ q', w' = (w8.drewN q).drewN q') := fun q => by
              have h := sameb_any (some ⟨g6, 0, none⟩) c6 (blkH rs kk) (some ⟨g2, 0, none⟩) c2 (hs.take kk) (w8.drewN q) (PG8.out.drewN q).ints ((PB8.out.drewN q).ints.first kk) (by rw [blkH_length]; unfold maxLen; omega) (by rw [htb]; unfold maxLen; omega)
              rw [blkH_length, htb, hdf] at h
              exact h
            clear hta htb hde hdf hkk hv
            go_wp2_with fail
            refine CS1.out.mono ?_
            rintro e ws ⟨rfl, q, rfl⟩
            go_wp2_with fail
            refine (CS2.out q).mono ?_
            rintro e ws ⟨rfl, q', rfl⟩
            go_wp2
            go_ret
            exact ⟨rfl, below_drewN HB8.out _⟩
          · have hl1i : 16 < ln := by omega
            go_wp2_with fail
            have CS := sames_any (some ⟨g1, 0, none⟩) c1 bs (some ⟨g3, 0, none⟩) c3 bs w7 PA7.out.ints PC7.out.ints HML.out HML.out
            rw [HM.out, decide_eq_true rfl] at CS
            refine CS.mono ?_
            rintro e ws ⟨rfl, q, rfl⟩
            clear CS
            obtain ⟨w8, HW8⟩ : ∃ Q0, Hid (w7.drewN q = Q0) := ⟨_, rfl⟩
            have hb8 : Below w7.heap.size w7 w8 := by rw [← HW8.out]; exact below_drewN (Below.refl _ _) q
            rw [HW8.out]
            have PF8 := Lib.hid (PF7.out.below hb8)
            have HB8 : Hid (Below w.heap.size w w8) := HB7.out.trans (hb8.mono HB7.out.size)
            have LF8 := Lib.hid (LF7.out.below hb8 LF7.out.lt)
            have PA8 := Lib.hid (PA7.out.below hb8)
            have PB8 := Lib.hid (PB7.out.below hb8)
            have PC8 := Lib.hid (PC7.out.below hb8)
            have PD8 := Lib.hid (PD7.out.below hb8)
            clear hb8
            go_wp2_with fail
            have CS := sameb_any (some ⟨g2, 0, none⟩) c2 hs (some ⟨g4, 0, none⟩) c4 hs w8 PB8.out.ints PD8.out.ints HML2.out HML2.out
            rw [HM2.out, decide_eq_true rfl] at CS
            refine CS.mono ?_
            rintro e ws ⟨rfl, q, rfl⟩
            clear CS
            obtain ⟨w9, HW9⟩ : ∃ Q0, Hid (w8.drewN q = Q0) := ⟨_, rfl⟩
            have hb9 : Below w8.heap.size w8 w9 := by rw [← HW9.out]; exact below_drewN (Below.refl _ _) q
            rw [HW9.out]
            have PF9 := Lib.hid (PF8.out.below hb9)
            have HB9 : Hid (Below w.heap.size w w9) := HB8.out.trans (hb9.mono HB8.out.size)
            have LF9 := Lib.hid (LF8.out.below hb9 LF8.out.lt)
            have PA9 := Lib.hid (PA8.out.below hb9)
            have PB9 := Lib.hid (PB8.out.below hb9)
            have PC9 := Lib.hid (PC8.out.below hb9)
            have PD9 := Lib.hid (PD8.out.below hb9)
            clear hb9
            go_wp2
            go_ret
            exact ⟨rfl, HB9.out⟩
        · have hl0i : ln < 0 := by omega
          go_wp2_with fail
          have CS := sames_any (some ⟨g1, 0, none⟩) c1 bs (some ⟨g3, 0, none⟩) c3 bs w7 PA7.out.ints PC7.out.ints HML.out HML.out
          rw [HM.out, decide_eq_true rfl] at CS
          refine CS.mono ?_
          rintro e ws ⟨rfl, q, rfl⟩
          clear CS
          obtain ⟨w8, HW8⟩ : ∃ Q0, Hid (w7.drewN q = Q0) := ⟨_, rfl⟩
          have hb8 : Below w7.heap.size w7 w8 := by rw [← HW8.out]; exact below_drewN (Below.refl _ _) q
          rw [HW8.out]
          have PF8 := Lib.hid (PF7.out.below hb8)
          have HB8 : Hid (Below w.heap.size w w8) := HB7.out.trans (hb8.mono HB7.out.size)
          have LF8 := Lib.hid (LF7.out.below hb8 LF7.out.lt)
          have PA8 := Lib.hid (PA7.out.below hb8)
          have PB8 := Lib.hid (PB7.out.below hb8)
          have PC8 := Lib.hid (PC7.out.below hb8)
          have PD8 := Lib.hid (PD7.out.below hb8)
          clear hb8
          go_wp2_with fail
          have CS := sameb_any (some ⟨g2, 0, none⟩) c2 hs (some ⟨g4, 0, none⟩) c4 hs w8 PB8.out.ints PD8.out.ints HML2.out HML2.out
          rw [HM2.out, decide_eq_true rfl] at CS
          refine CS.mono ?_
          rintro e ws ⟨rfl, q, rfl⟩
          clear CS
          obtain ⟨w9, HW9⟩ : ∃ Q0, Hid (w8.drewN q = Q0) := ⟨_, rfl⟩
          have hb9 : Below w8.heap.size w8 w9 := by rw [← HW9.out]; exact below_drewN (Below.refl _ _) q
          rw [HW9.out]
          have PF9 := Lib.hid (PF8.out.below hb9)
          have HB9 : Hid (Below w.heap.size w w9) := HB8.out.trans (hb9.mono HB8.out.size)
          have LF9 := Lib.hid (LF8.out.below hb9 LF8.out.lt)
          have PA9 := Lib.hid (PA8.out.below hb9)
          have PB9 := Lib.hid (PB8.out.below hb9)
          have PC9 := Lib.hid (PC8.out.below hb9)
          have PD9 := Lib.hid (PD8.out.below hb9)
          clear hb9
          go_wp2
          go_ret
          exact ⟨rfl, HB9.out⟩
    · have h9 : 1048576 < len1 := by omega
      clear hlen1
      go_enter Try.func6, Try.ntmps6
      go_wp2
      go_ret
      exact ⟨rfl, Below.refl _ _⟩
  · have h9 : 1048576 < len := by omega
    clear hlen
    go_enter Try.func6, Try.ntmps6
    go_wp2
    go_ret
    exact ⟨rfl, Below.refl _ _⟩

end Go.Proofs.Ytnllejialnkgnaa
