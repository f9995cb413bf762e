/- The walk of FnExactJournalCrash: it returns true and changes nothing that was there. Condition: the arguments' cells lie in memory. -/
import Derived.Test.YtmddfjfflgfdlaaExactJour
namespace Go.Proofs.Ytmddfjfflgfdlaa
open Go.RowKit Go.Conc
set_option linter.unusedVariables false

set_option maxHeartbeats 8000000 in
set_option maxRecDepth 100000 in
theorem walkExactJournalCrash (A : Option Addr) (cap : Nat) (s : Int) (rs : List RD) (kp : Int) (w : World) (hI : RowAt RK w w.heap.size A rs) (hF : FitR rs) (hm : rs.length ≤ maxLen) :
    Calls Try.prog 6 #[journalV A rs.length cap s, .int .i64 kp] w fun e w' => e = .returned (.bool true) ∧ Below w.heap.size w w' := by
  have HLM0 := Lib.hid hm
  have HF := Lib.hid hF
  unfold maxLen at hm
  have HI := Lib.hid hI
  clear hI hF
  obtain ⟨n, HN⟩ : ∃ n, Hid (rs.length = n) := ⟨_, rfl⟩
  rw [HN.out] at hm ⊢
  obtain ⟨rsx, HO⟩ : ∃ v, Hid (crashR rs s kp = v) := ⟨_, rfl⟩
  obtain ⟨os, HV⟩ : ∃ v, Hid (crashS rs s kp = v) := ⟨_, rfl⟩
  obtain ⟨mb, HM⟩ : ∃ v, Hid (rsx.length = v) := ⟨_, rfl⟩
  have HMS : Hid (rsx.length ≤ 1048576) := by show _ ≤ _; rw [← HO.out]; exact Nat.le_trans (crashR_len rs s kp) (by omega)
  have HMM : Hid (rsx.length ≤ maxLen) := by show _ ≤ _; have := HMS.out; unfold maxLen; omega
  have SPEC : Hid (∀ (A : Option Addr) (cap : Nat) (U : World), JAt U U.heap.size A cap rs → Calls Try.prog 21 #[journalV A n cap s, .int .i64 kp] U (RetJ U rsx os)) := fun A cap U h => by
    have h := sjcrash_any A cap s kp rs U h
    rw [HO.out, HV.out, HN.out] at h
    exact h
  have IMPL : Hid (∀ (A : Option Addr) (cap : Nat) (U : World), JAt U U.heap.size A cap rs → Calls Try.prog 22 #[journalV A n cap s, .int .i64 kp] U (RetJ U rsx os)) := fun A cap U h => by
    have h := jcrash_any A cap s kp rs U h
    rw [HO.out, HV.out, HN.out] at h
    exact h
  obtain ⟨w0, HW⟩ : ∃ Q0, Hid (w.alloc (.cells #[.slice A n cap, .int .i64 s] 24) = Q0) := ⟨_, rfl⟩
  have KB0 : Hid (Blk w0 w.heap.size 24 #[.slice A n cap, .int .i64 s]) := by rw [← HW.out]; exact Blk.new w _ _
  have HB0 : Hid (Below w.heap.size w w0) := by rw [← HW.out]; exact (Below.refl _ w).alloc (Nat.le_refl _) _
  have hkb : w.heap.size < w0.heap.size := KB0.out.lt
  have HI0 := Lib.hid (HI.out.belowS HB0.out)
  go_enter Try.func6, Try.ntmps6
  go_upto_region 1 with fail
  rw [HW.out]
  obtain ⟨kb0, kb1⟩ := jr_cells KB0.out
  go_wp2_with fail
  refine (szJ_any A cap s rs w0 HI0.out HF.out HLM0.out HN.out).mono ?_
  rintro e w1 ⟨q, rfl, hq0, hq1, hq2, hb1⟩
  have HI1 := Lib.hid (HI0.out.belowS hb1)
  have KB1 := Lib.hid (KB0.out.below hb1 KB0.out.lt)
  have HB1 : Hid (Below w.heap.size w w1) := HB0.out.trans (hb1.mono HB0.out.size)
  have hz1 : w0.heap.size ≤ w1.heap.size := hb1.size
  clear hb1
  clear kb0 kb1
  by_cases hq : q < 0
  · go_wp2
    go_ret
    exact ⟨rfl, HB1.out⟩
  · have hlen : n ≤ 1048576 := by have := hq2 (by omega); omega
    have HL : Hid (rs.length ≤ 1048576) := by show _ ≤ _; rw [HN.out]; exact hlen
    have HLM : Hid (rs.length ≤ maxLen) := HLM0
    obtain ⟨kb0, kb1⟩ := jr_cells KB1.out
    go_wp2_with fail
    refine (toJ_any A cap s rs w1 HI1.out HL.out HN.out).mono ?_
    rintro e w2 ⟨g2, rfl, ho2, hb2⟩
    have X2 := Lib.hid ho2
    have hg2 : w1.heap.size ≤ g2 ∧ g2 < w2.heap.size := ho2.lies _ rfl
    clear ho2
    have HI2 := Lib.hid (HI1.out.belowS hb2)
    have KB2 := Lib.hid (KB1.out.below hb2 KB1.out.lt)
    have HB2 : Hid (Below w.heap.size w w2) := HB1.out.trans (hb2.mono HB1.out.size)
    have hz2 : w1.heap.size ≤ w2.heap.size := hb2.size
    clear hb2
    clear kb0 kb1
    go_wp2_with fail
    refine (SPEC.out _ _ _ (own_jat X2.out HF.out)).mono ?_
    rintro e w3 ⟨A3, c3, rfl, ho3, hf3, hb3⟩
    rw [HM.out]
    have R3 := Lib.hid ho3
    have hlt3 : Hid (∀ g, A3 = some ⟨g, 0, none⟩ → w2.heap.size ≤ g ∧ g < w3.heap.size) := ho3.lies
    clear ho3 hf3
    have HI3 := Lib.hid (HI2.out.belowS hb3)
    have KB3 := Lib.hid (KB2.out.below hb3 KB2.out.lt)
    have X3 := Lib.hid (X2.out.below hb3)
    have HB3 : Hid (Below w.heap.size w w3) := HB2.out.trans (hb3.mono HB2.out.size)
    have hz3 : w2.heap.size ≤ w3.heap.size := hb3.size
    clear hb3
    have RW3 := R3
    obtain ⟨kb0, kb1⟩ := jr_cells KB3.out
    obtain ⟨w4, HW4⟩ : ∃ Q0, Hid (w3.alloc (.cells #[.slice A3 mb c3, .int .i64 os] 29) = Q0) := ⟨_, rfl⟩
    have hb4 : Below w3.heap.size w3 w4 := by rw [← HW4.out]; exact (Below.refl _ _).alloc (Nat.le_refl _) _
    have LW4 : Hid (Blk w4 w3.heap.size 29 #[.slice A3 mb c3, .int .i64 os]) := by rw [← HW4.out]; exact Blk.new w3 _ _
    have hs4 : w3.heap.size < w4.heap.size := LW4.out.lt
    have HI4 := Lib.hid (HI3.out.belowS hb4)
    have KB4 := Lib.hid (KB3.out.below hb4 KB3.out.lt)
    have RW4 := Lib.hid (RW3.out.below hb4)
    have HB4 : Hid (Below w.heap.size w w4) := HB3.out.trans (hb4.mono HB3.out.size)
    have hz4 : w3.heap.size ≤ w4.heap.size := hb4.size
    clear hb4
    go_upto_region 6 with fail
    rw [HW4.out]
    clear kb0 kb1
    obtain ⟨kb0, kb1⟩ := jr_cells KB4.out
    go_wp2_with fail
    refine (toJ_any A cap s rs w4 HI4.out HL.out HN.out).mono ?_
    rintro e w5 ⟨g5, rfl, ho5, hb5⟩
    have X5 := Lib.hid ho5
    have hg5 : w4.heap.size ≤ g5 ∧ g5 < w5.heap.size := ho5.lies _ rfl
    clear ho5
    have HI5 := Lib.hid (HI4.out.belowS hb5)
    have KB5 := Lib.hid (KB4.out.below hb5 KB4.out.lt)
    have RW5 := Lib.hid (RW4.out.below hb5)
    have LW5 := Lib.hid (LW4.out.below hb5 LW4.out.lt)
    have HB5 : Hid (Below w.heap.size w w5) := HB4.out.trans (hb5.mono HB4.out.size)
    have hz5 : w4.heap.size ≤ w5.heap.size := hb5.size
    clear hb5
    clear kb0 kb1
    obtain ⟨kb0, kb1⟩ := jr_cells KB5.out
    obtain ⟨lw0, lw1⟩ := jr_cells LW5.out
    obtain ⟨w6, HW6⟩ : ∃ Q0, Hid (w5.alloc (.cells #[.slice (some ⟨g5, 0, none⟩) n n, .int .i64 s] 29) = Q0) := ⟨_, rfl⟩
    have hb6 : Below w5.heap.size w5 w6 := by rw [← HW6.out]; exact (Below.refl _ _).alloc (Nat.le_refl _) _
    have LX6 : Hid (Blk w6 w5.heap.size 29 #[.slice (some ⟨g5, 0, none⟩) n n, .int .i64 s]) := by rw [← HW6.out]; exact Blk.new w5 _ _
    have hs6 : w5.heap.size < w6.heap.size := LX6.out.lt
    have HI6 := Lib.hid (HI5.out.belowS hb6)
    have KB6 := Lib.hid (KB5.out.below hb6 KB5.out.lt)
    have RW6 := Lib.hid (RW5.out.below hb6)
    have LW6 := Lib.hid (LW5.out.below hb6 LW5.out.lt)
    have X6 := Lib.hid (X5.out.below hb6)
    have HB6 : Hid (Below w.heap.size w w6) := HB5.out.trans (hb6.mono HB5.out.size)
    have hz6 : w5.heap.size ≤ w6.heap.size := hb6.size
    clear hb6
    go_upto_region 7 with fail
    rw [HW6.out]
    clear kb0 kb1 lw0 lw1
    obtain ⟨lx0, lx1⟩ := jr_cells LX6.out
    go_wp2_with fail
    refine (IMPL.out _ _ _ (own_jat X6.out HF.out)).mono ?_
    rintro e w7 ⟨A7, c7, rfl, ho7, hf7, hb7⟩
    rw [HM.out]
    have R7 := Lib.hid ho7
    have hlt7 : Hid (∀ g, A7 = some ⟨g, 0, none⟩ → w6.heap.size ≤ g ∧ g < w7.heap.size) := ho7.lies
    clear ho7 hf7
    have HI7 := Lib.hid (HI6.out.belowS hb7)
    have KB7 := Lib.hid (KB6.out.below hb7 KB6.out.lt)
    have RW7 := Lib.hid (RW6.out.below hb7)
    have LW7 := Lib.hid (LW6.out.below hb7 LW6.out.lt)
    have X7 := Lib.hid (X6.out.below hb7)
    have LX7 := Lib.hid (LX6.out.below hb7 LX6.out.lt)
    have HB7 : Hid (Below w.heap.size w w7) := HB6.out.trans (hb7.mono HB6.out.size)
    have hz7 : w6.heap.size ≤ w7.heap.size := hb7.size
    clear hb7
    clear lx0 lx1
    have RG7 := R7
    obtain ⟨w8, HW8⟩ : ∃ Q0, Hid (w7.alloc (.cells #[.slice A7 mb c7, .int .i64 os] 29) = Q0) := ⟨_, rfl⟩
    have hb8 : Below w7.heap.size w7 w8 := by rw [← HW8.out]; exact (Below.refl _ _).alloc (Nat.le_refl _) _
    have LG8 : Hid (Blk w8 w7.heap.size 29 #[.slice A7 mb c7, .int .i64 os]) := by rw [← HW8.out]; exact Blk.new w7 _ _
    have hs8 : w7.heap.size < w8.heap.size := LG8.out.lt
    have HI8 := Lib.hid (HI7.out.belowS hb8)
    have KB8 := Lib.hid (KB7.out.below hb8 KB7.out.lt)
    have RW8 := Lib.hid (RW7.out.below hb8)
    have LW8 := Lib.hid (LW7.out.below hb8 LW7.out.lt)
    have X8 := Lib.hid (X7.out.below hb8)
    have LX8 := Lib.hid (LX7.out.below hb8 LX7.out.lt)
    have RG8 := Lib.hid (RG7.out.below hb8)
    have HB8 : Hid (Below w.heap.size w w8) := HB7.out.trans (hb8.mono HB7.out.size)
    have hz8 : w7.heap.size ≤ w8.heap.size := hb8.size
    clear hb8
    go_upto_region 8 with fail
    rw [HW8.out]
    obtain ⟨lg0, lg1⟩ := jr_cells LG8.out
    obtain ⟨lw0, lw1⟩ := jr_cells LW8.out
    go_wp2_with fail
    refine (eqJ_any A7 c7 A3 c3 os rsx w8 RG8.out.at_ RW8.out.at_ HMM.out HM.out).mono ?_
    rintro e w9 ⟨rfl, hb9⟩
    have HI9 := Lib.hid (HI8.out.belowS hb9)
    have KB9 := Lib.hid (KB8.out.below hb9 KB8.out.lt)
    have RW9 := Lib.hid (RW8.out.below hb9)
    have LW9 := Lib.hid (LW8.out.below hb9 LW8.out.lt)
    have X9 := Lib.hid (X8.out.below hb9)
    have LX9 := Lib.hid (LX8.out.below hb9 LX8.out.lt)
    have RG9 := Lib.hid (RG8.out.below hb9)
    have LG9 := Lib.hid (LG8.out.below hb9 LG8.out.lt)
    have HB9 : Hid (Below w.heap.size w w9) := HB8.out.trans (hb9.mono HB8.out.size)
    have hz9 : w8.heap.size ≤ w9.heap.size := hb9.size
    clear hb9
    clear lg0 lg1 lw0 lw1
    obtain ⟨lx0, lx1⟩ := jr_cells LX9.out
    obtain ⟨kb0, kb1⟩ := jr_cells KB9.out
    go_upto_region 10 with fail
    (try go_wp2_with fail)
    clear lx0 lx1 kb0 kb1
    refine wp_region_held_drew (S := (fun w' => (w'.cell? ⟨w5.heap.size, 0, none⟩ = some (.slice (some ⟨g5, 0, none⟩) n n) ∧ w'.cell? ⟨w5.heap.size, 1, none⟩ = some (.int .i64 s)) ∧ (w'.cell? ⟨w.heap.size, 0, none⟩ = some (.slice A n cap) ∧ w'.cell? ⟨w.heap.size, 1, none⟩ = some (.int .i64 s)))) (by kernel_rfl) (⟨jr_cells LX9.out, jr_cells KB9.out⟩) (fun hHeld => ?_)
    refine wpAnyH_take (i := 0) (v := ?zv9007) rfl (by kernel_rfl) (by kernel_rfl) (by kernel_rfl) (fun _ _ _ h => h) (Or.inl ⟨by kernel_rfl, ?zy9007⟩) (by assumption) ?zr9007
    case zy9007 => (intro w hSw; (try dsimp only at hSw); go_simp; try with_reducible rfl)
    change wpAnyH _ _ _ _ _ _ _ (Act.put _ (some 31) _) _
    simp only [Act.put, List.setIfInBounds_toArray, List.set_cons_zero, List.set_cons_succ]
    refine wpAnyH_take (i := 1) (v := ?zv9008) rfl (by kernel_rfl) (by kernel_rfl) (by kernel_rfl) (fun _ _ _ h => h) (Or.inl ⟨by kernel_rfl, ?zy9008⟩) (by assumption) ?zr9008
    case zy9008 => (intro w hSw; (try dsimp only at hSw); go_simp; try with_reducible rfl)
    change wpAnyH _ _ _ _ _ _ _ (Act.put _ (some 32) _) _
    simp only [Act.put, List.setIfInBounds_toArray, List.set_cons_zero, List.set_cons_succ]
    refine wpAnyH_ready (rs := [2]) (by kernel_rfl) (by simp) (AllReadyH.cons rfl (fun K hK => ?_) AllReadyH.nil)
    go_simp
    go_at_call 10
    refine (toJ_any A cap s rs _ (HI9.out.drewN 1) HL.out HN.out).mono ?_
    rintro e w10 ⟨g10, rfl, ho10, hbd⟩
    have hb10 : Below w9.heap.size w9 w10 := below_drew_l hbd
    have T10 : Hid (OwnRow RK w10 w9.heap.size (some ⟨g10, 0, none⟩) n rs) := ho10
    clear hbd ho10
    have HI10 := Lib.hid (HI9.out.belowS hb10)
    have KB10 := Lib.hid (KB9.out.below hb10 KB9.out.lt)
    have RW10 := Lib.hid (RW9.out.below hb10)
    have LW10 := Lib.hid (LW9.out.below hb10 LW9.out.lt)
    have X10 := Lib.hid (X9.out.below hb10)
    have LX10 := Lib.hid (LX9.out.below hb10 LX9.out.lt)
    have RG10 := Lib.hid (RG9.out.below hb10)
    have LG10 := Lib.hid (LG9.out.below hb10 LG9.out.lt)
    have HB10 : Hid (Below w.heap.size w w10) := HB9.out.trans (hb10.mono HB9.out.size)
    have hz10 : w9.heap.size ≤ w10.heap.size := hb10.size
    clear hb10
    refine hK.out _ _ (⟨jr_cells LX10.out, jr_cells KB10.out⟩) (fun hHeld => ?_)
    clear hK K
    (try simp only [Act.put, List.setIfInBounds_toArray, List.set_cons_zero, List.set_cons_succ])
    refine wpAnyH_ready (rs := [3]) (by kernel_rfl) (by simp) (AllReadyH.cons rfl (fun K hK => ?_) AllReadyH.nil)
    go_simp
    go_at_call 12
    refine (eqJ_any _ n _ n s rs w10 X10.out.at_ T10.out.at_ HLM.out HN.out).mono ?_
    rintro e w11 ⟨rfl, hb11⟩
    have HI11 := Lib.hid (HI10.out.belowS hb11)
    have KB11 := Lib.hid (KB10.out.below hb11 KB10.out.lt)
    have RW11 := Lib.hid (RW10.out.below hb11)
    have LW11 := Lib.hid (LW10.out.below hb11 LW10.out.lt)
    have X11 := Lib.hid (X10.out.below hb11)
    have LX11 := Lib.hid (LX10.out.below hb11 LX10.out.lt)
    have RG11 := Lib.hid (RG10.out.below hb11)
    have LG11 := Lib.hid (LG10.out.below hb11 LG10.out.lt)
    have T11 := Lib.hid (T10.out.below hb11)
    have HB11 : Hid (Below w.heap.size w w11) := HB10.out.trans (hb11.mono HB10.out.size)
    have hz11 : w10.heap.size ≤ w11.heap.size := hb11.size
    clear hb11
    refine hK.out _ _ (⟨jr_cells LX11.out, jr_cells KB11.out⟩) (fun hHeld => ?_)
    clear hK K
    (try simp only [Act.put, List.setIfInBounds_toArray, List.set_cons_zero, List.set_cons_succ])
    refine wpAnyH_take (i := 4) (v := ?zv9009) rfl (by kernel_rfl) (by kernel_rfl) (by kernel_rfl) (fun _ _ _ h => h) (Or.inl ⟨by kernel_rfl, ?zy9009⟩) (by assumption) ?zr9009
    case zy9009 => (intro w hSw; (try dsimp only at hSw); go_simp; try with_reducible rfl)
    change wpAnyH _ _ _ _ _ _ _ (Act.put _ (some 35) _) _
    simp only [Act.put, List.setIfInBounds_toArray, List.set_cons_zero, List.set_cons_succ]
    refine wpAnyH_done (by kernel_rfl) ?_ _
    obtain ⟨lx0, lx1⟩ := jr_cells LX11.out
    go_wp2_with fail
    refine (markJ_any _ _ _ s rs w11 X11.out HL.out HN.out).mono ?_
    rintro e w12 hm12
    obtain ⟨hb12, hk12⟩ := marked2_other X11.out hm12 (by omega)
    obtain ⟨rfl, -, -, -⟩ := hm12
    clear lx0 lx1
    have RW12 := Lib.hid (RW11.out.older (fun g hA => by have := (hlt3.out g hA).2; omega) hb12)
    have RG12 := Lib.hid (RG11.out.block fun g hA => hk12 g (RG11.out.lies g hA).2 fun g' hA' => by injection hA' with hA'; injection hA' with hA' _ _; have := (hlt7.out g hA).1; omega)
    have KB12 : Hid (Blk w12 w.heap.size 24 #[.slice A n cap, .int .i64 s]) := (hk12 _ KB11.out.lt (fun g' hA' => by injection hA' with hA'; injection hA' with hA' _ _; omega)).trans KB11.out
    have LW12 : Hid (Blk w12 w3.heap.size 29 #[.slice A3 mb c3, .int .i64 os]) := (hk12 _ LW11.out.lt (fun g' hA' => by injection hA' with hA'; injection hA' with hA' _ _; omega)).trans LW11.out
    have LG12 : Hid (Blk w12 w7.heap.size 29 #[.slice A7 mb c7, .int .i64 os]) := (hk12 _ LG11.out.lt (fun g' hA' => by injection hA' with hA'; injection hA' with hA' _ _; omega)).trans LG11.out
    have HB12 : Hid (Below w.heap.size w w12) := HB11.out.trans (hb12.mono (by omega))
    have HI12 := Lib.hid (HI.out.belowS HB12.out)
    have hz12 : w11.heap.size ≤ w12.heap.size := hb12.size
    clear hb12 hk12
    have hk1 : ¬ (((1 + 2 * n : Nat) : Int) < 0) := by omega
    obtain ⟨lg0, lg1⟩ := jr_cells LG12.out
    obtain ⟨lw0, lw1⟩ := jr_cells LW12.out
    go_wp2_with fail
    refine (eqJ_any A7 c7 A3 c3 os rsx w12 RG12.out.at_ RW12.out.at_ HMM.out HM.out).mono ?_
    rintro e w13 ⟨rfl, hb13⟩
    have HI13 := Lib.hid (HI12.out.belowS hb13)
    have KB13 := Lib.hid (KB12.out.below hb13 KB12.out.lt)
    have RW13 := Lib.hid (RW12.out.below hb13)
    have LW13 := Lib.hid (LW12.out.below hb13 LW12.out.lt)
    have RG13 := Lib.hid (RG12.out.below hb13)
    have LG13 := Lib.hid (LG12.out.below hb13 LG12.out.lt)
    have HB13 : Hid (Below w.heap.size w w13) := HB12.out.trans (hb13.mono HB12.out.size)
    have hz13 : w12.heap.size ≤ w13.heap.size := hb13.size
    clear hb13
    clear lg0 lg1 lw0 lw1
    obtain ⟨lg0, lg1⟩ := jr_cells LG13.out
    go_wp2_with fail
    refine (markJ_any _ A7 c7 os rsx w13 RG13.out HMS.out HM.out).mono ?_
    rintro e w14 hm14
    obtain ⟨hb14, hk14⟩ := marked2_other RG13.out hm14 (by omega)
    obtain ⟨rfl, ho14, -, -⟩ := hm14
    clear lg0 lg1
    have RM14 := Lib.hid ho14
    clear ho14
    have RW14 := Lib.hid (RW13.out.older (fun g hA => by have := (hlt3.out g hA).2; omega) hb14)
    have KB14 : Hid (Blk w14 w.heap.size 24 #[.slice A n cap, .int .i64 s]) := (hb14.block _ (by omega)).trans KB13.out
    have LW14 : Hid (Blk w14 w3.heap.size 29 #[.slice A3 mb c3, .int .i64 os]) := (hb14.block _ (by omega)).trans LW13.out
    have LG14 : Hid (Blk w14 w7.heap.size 29 #[.slice A7 mb c7, .int .i64 os]) := (hk14 _ LG13.out.lt (fun g' hA' => by have := (hlt7.out g' hA').2; omega)).trans LG13.out
    have HB14 : Hid (Below w.heap.size w w14) := HB13.out.trans (hb14.mono (by omega))
    have HI14 := Lib.hid (HI.out.belowS HB14.out)
    have hz14 : w13.heap.size ≤ w14.heap.size := hb14.size
    clear hb14 hk14
    have hmb : mb ≤ 1048576 := by rw [← HM.out]; exact HMS.out
    have hk2 : ¬ (((1 + 2 * mb : Nat) : Int) < 0) := by omega
    have hk3 : ((((1 + 2 * mb : Nat) : Int)) != ((1 + 2 * mb : Nat) : Int)) = false := by simp
    obtain ⟨lg0, lg1⟩ := jr_cells LG14.out
    go_wp2_with fail
    refine (heldJ_any A7 c7 mb os w14 RM14.out.at_ hmb).mono ?_
    rintro e w15 ⟨rfl, hb15⟩
    have HI15 := Lib.hid (HI14.out.belowS hb15)
    have KB15 := Lib.hid (KB14.out.below hb15 KB14.out.lt)
    have RW15 := Lib.hid (RW14.out.below hb15)
    have LW15 := Lib.hid (LW14.out.below hb15 LW14.out.lt)
    have LG15 := Lib.hid (LG14.out.below hb15 LG14.out.lt)
    have RM15 := Lib.hid (RM14.out.below hb15)
    have HB15 : Hid (Below w.heap.size w w15) := HB14.out.trans (hb15.mono HB14.out.size)
    have hz15 : w14.heap.size ≤ w15.heap.size := hb15.size
    clear hb15
    clear lg0 lg1
    obtain ⟨kb0, kb1⟩ := jr_cells KB15.out
    go_wp2_with fail
    refine (toJ_any A cap s rs w15 HI15.out HL.out HN.out).mono ?_
    rintro e w16 ⟨g16, rfl, ho16, hb16⟩
    have X16 := Lib.hid ho16
    have hg16 : w15.heap.size ≤ g16 ∧ g16 < w16.heap.size := ho16.lies _ rfl
    clear ho16
    have HI16 := Lib.hid (HI15.out.belowS hb16)
    have KB16 := Lib.hid (KB15.out.below hb16 KB15.out.lt)
    have RW16 := Lib.hid (RW15.out.below hb16)
    have LW16 := Lib.hid (LW15.out.below hb16 LW15.out.lt)
    have LG16 := Lib.hid (LG15.out.below hb16 LG15.out.lt)
    have RM16 := Lib.hid (RM15.out.below hb16)
    have HB16 : Hid (Below w.heap.size w w16) := HB15.out.trans (hb16.mono HB15.out.size)
    have hz16 : w15.heap.size ≤ w16.heap.size := hb16.size
    clear hb16
    clear kb0 kb1
    go_wp2_with fail
    refine (IMPL.out _ _ _ (own_jat X16.out HF.out)).mono ?_
    rintro e w17 ⟨A17, c17, rfl, ho17, hf17, hb17⟩
    rw [HM.out]
    have R17 := Lib.hid ho17
    have hlt17 : Hid (∀ g, A17 = some ⟨g, 0, none⟩ → w16.heap.size ≤ g ∧ g < w17.heap.size) := ho17.lies
    clear ho17 hf17
    have HI17 := Lib.hid (HI16.out.belowS hb17)
    have KB17 := Lib.hid (KB16.out.below hb17 KB16.out.lt)
    have RW17 := Lib.hid (RW16.out.below hb17)
    have LW17 := Lib.hid (LW16.out.below hb17 LW16.out.lt)
    have LG17 := Lib.hid (LG16.out.below hb17 LG16.out.lt)
    have RM17 := Lib.hid (RM16.out.below hb17)
    have X17 := Lib.hid (X16.out.below hb17)
    have HB17 : Hid (Below w.heap.size w w17) := HB16.out.trans (hb17.mono HB16.out.size)
    have hz17 : w16.heap.size ≤ w17.heap.size := hb17.size
    clear hb17
    have RH17 := R17
    obtain ⟨lw0, lw1⟩ := jr_cells LW17.out
    obtain ⟨w18, HW18⟩ : ∃ Q0, Hid (w17.alloc (.cells #[.slice A17 mb c17, .int .i64 os] 29) = Q0) := ⟨_, rfl⟩
    have hb18 : Below w17.heap.size w17 w18 := by rw [← HW18.out]; exact (Below.refl _ _).alloc (Nat.le_refl _) _
    have LH18 : Hid (Blk w18 w17.heap.size 29 #[.slice A17 mb c17, .int .i64 os]) := by rw [← HW18.out]; exact Blk.new w17 _ _
    have hs18 : w17.heap.size < w18.heap.size := LH18.out.lt
    have HI18 := Lib.hid (HI17.out.belowS hb18)
    have KB18 := Lib.hid (KB17.out.below hb18 KB17.out.lt)
    have RW18 := Lib.hid (RW17.out.below hb18)
    have LW18 := Lib.hid (LW17.out.below hb18 LW17.out.lt)
    have LG18 := Lib.hid (LG17.out.below hb18 LG17.out.lt)
    have RM18 := Lib.hid (RM17.out.below hb18)
    have RH18 := Lib.hid (RH17.out.below hb18)
    have HB18 : Hid (Below w.heap.size w w18) := HB17.out.trans (hb18.mono HB17.out.size)
    have hz18 : w17.heap.size ≤ w18.heap.size := hb18.size
    clear hb18
    go_upto_region 25 with fail
    rw [HW18.out]
    clear lw0 lw1
    obtain ⟨lh0, lh1⟩ := jr_cells LH18.out
    obtain ⟨lw0, lw1⟩ := jr_cells LW18.out
    go_wp2_with fail
    refine (eqJ_any A17 c17 A3 c3 os rsx w18 RH18.out.at_ RW18.out.at_ HMM.out HM.out).mono ?_
    rintro e w19 ⟨rfl, hb19⟩
    have HI19 := Lib.hid (HI18.out.belowS hb19)
    have KB19 := Lib.hid (KB18.out.below hb19 KB18.out.lt)
    have RW19 := Lib.hid (RW18.out.below hb19)
    have LW19 := Lib.hid (LW18.out.below hb19 LW18.out.lt)
    have LG19 := Lib.hid (LG18.out.below hb19 LG18.out.lt)
    have RM19 := Lib.hid (RM18.out.below hb19)
    have RH19 := Lib.hid (RH18.out.below hb19)
    have LH19 := Lib.hid (LH18.out.below hb19 LH18.out.lt)
    have HB19 : Hid (Below w.heap.size w w19) := HB18.out.trans (hb19.mono HB18.out.size)
    have hz19 : w18.heap.size ≤ w19.heap.size := hb19.size
    clear hb19
    clear lh0 lh1 lw0 lw1
    obtain ⟨lg0, lg1⟩ := jr_cells LG19.out
    go_wp2_with fail
    refine (heldJ_any A7 c7 mb os w19 RM19.out.at_ hmb).mono ?_
    rintro e w20 ⟨rfl, hb20⟩
    have HB20 : Hid (Below w.heap.size w w20) := HB19.out.trans (hb20.mono HB19.out.size)
    clear hb20
    go_wp2
    go_ret
    exact ⟨rfl, HB20.out⟩

end Go.Proofs.Ytmddfjfflgfdlaa
