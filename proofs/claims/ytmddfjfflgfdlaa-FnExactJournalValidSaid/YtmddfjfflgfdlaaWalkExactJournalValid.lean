/- The walk of FnExactJournalValid: it returns true and changes nothing that was there. Condition: the arguments' cells lie in memory. -/
import Derived.Test.YtmddfjfflgfdlaaExactJour
namespace Go.Proofs.Ytmddfjfflgfdlaa
open Go.RowKit Go.Conc
set_option linter.unusedVariables false

set_option maxHeartbeats 8000000 in
set_option maxRecDepth 100000 in
theorem walkExactJournalValid (A : Option Addr) (cap : Nat) (s : Int) (rs : List RD) (w : World) (hI : RowAt RK w w.heap.size A rs) (hF : FitR rs) (hm : rs.length ≤ maxLen) :
    Calls Try.prog 3 #[journalV A rs.length cap s] w fun e w' => e = .returned (.bool true) ∧ Below w.heap.size w w' := by
  have HLM0 := Lib.hid hm
  have HF := Lib.hid hF
  unfold maxLen at hm
  have HI := Lib.hid hI
  clear hI hF
  obtain ⟨n, HN⟩ : ∃ n, Hid (rs.length = n) := ⟨_, rfl⟩
  rw [HN.out] at hm ⊢
  obtain ⟨ov, HV⟩ : ∃ v, Hid (jokB rs s = v) := ⟨_, rfl⟩
  have SPEC : Hid (∀ (A : Option Addr) (cap : Nat) (U : World), JAt U U.heap.size A cap rs → Calls Try.prog 9 #[journalV A n cap s] U (fun e w' => e = .returned (.bool ov) ∧ Below U.heap.size U w')) := fun A cap U h => by
    have h := sjvalid_any A cap s rs U h
    rw [HV.out, HN.out] at h
    exact h
  have IMPL : Hid (∀ (A : Option Addr) (cap : Nat) (U : World), JAt U U.heap.size A cap rs → Calls Try.prog 11 #[journalV A n cap s] U (fun e w' => e = .returned (.bool ov) ∧ Below U.heap.size U w')) := fun A cap U h => by
    have h := jvalid_any A cap s rs U h
    rw [HV.out, HN.out] at h
    exact h
  obtain ⟨w0, HW⟩ : ∃ Q0, Hid (w.alloc (.cells #[.slice A n cap, .int .i64 s] 24) = Q0) := ⟨_, rfl⟩
  have KB0 : Hid (Blk w0 w.heap.size 24 #[.slice A n cap, .int .i64 s]) := by rw [← HW.out]; exact Blk.new w _ _
  have HB0 : Hid (Below w.heap.size w w0) := by rw [← HW.out]; exact (Below.refl _ w).alloc (Nat.le_refl _) _
  have hkb : w.heap.size < w0.heap.size := KB0.out.lt
  have HI0 := Lib.hid (HI.out.belowS HB0.out)
  go_enter Try.func3, Try.ntmps3
  go_upto_region 1 with fail
  rw [HW.out]
  obtain ⟨kb0, kb1⟩ := jr_cells KB0.out
  go_wp2_with fail
  refine (szJ_any A cap s rs w0 HI0.out HF.out HLM0.out HN.out).mono ?_
  rintro e w1 ⟨q, rfl, hq0, hq1, hq2, hb1⟩
  have HI1 := Lib.hid (HI0.out.belowS hb1)
  have KB1 := Lib.hid (KB0.out.below hb1 KB0.out.lt)
  have HB1 : Hid (Below w.heap.size w w1) := HB0.out.trans (hb1.mono HB0.out.size)
  have hz1 : w0.heap.size ≤ w1.heap.size := hb1.size
  clear hb1
  clear kb0 kb1
  by_cases hq : q < 0
  · go_wp2
    go_ret
    exact ⟨rfl, HB1.out⟩
  · have hlen : n ≤ 1048576 := by have := hq2 (by omega); omega
    have HL : Hid (rs.length ≤ 1048576) := by show _ ≤ _; rw [HN.out]; exact hlen
    have HLM : Hid (rs.length ≤ maxLen) := HLM0
    obtain ⟨kb0, kb1⟩ := jr_cells KB1.out
    go_wp2_with fail
    refine (toJ_any A cap s rs w1 HI1.out HL.out HN.out).mono ?_
    rintro e w2 ⟨g2, rfl, ho2, hb2⟩
    have X2 := Lib.hid ho2
    have hg2 : w1.heap.size ≤ g2 ∧ g2 < w2.heap.size := ho2.lies _ rfl
    clear ho2
    have HI2 := Lib.hid (HI1.out.belowS hb2)
    have KB2 := Lib.hid (KB1.out.below hb2 KB1.out.lt)
    have HB2 : Hid (Below w.heap.size w w2) := HB1.out.trans (hb2.mono HB1.out.size)
    have hz2 : w1.heap.size ≤ w2.heap.size := hb2.size
    clear hb2
    clear kb0 kb1
    go_wp2_with fail
    refine (SPEC.out _ _ _ (own_jat X2.out HF.out)).mono ?_
    rintro e w3 ⟨rfl, hb3⟩
    have HI3 := Lib.hid (HI2.out.belowS hb3)
    have KB3 := Lib.hid (KB2.out.below hb3 KB2.out.lt)
    have X3 := Lib.hid (X2.out.below hb3)
    have HB3 : Hid (Below w.heap.size w w3) := HB2.out.trans (hb3.mono HB2.out.size)
    have hz3 : w2.heap.size ≤ w3.heap.size := hb3.size
    clear hb3
    obtain ⟨kb0, kb1⟩ := jr_cells KB3.out
    go_wp2_with fail
    refine (toJ_any A cap s rs w3 HI3.out HL.out HN.out).mono ?_
    rintro e w5 ⟨g5, rfl, ho5, hb5⟩
    have X5 := Lib.hid ho5
    have hg5 : w3.heap.size ≤ g5 ∧ g5 < w5.heap.size := ho5.lies _ rfl
    clear ho5
    have HI5 := Lib.hid (HI3.out.belowS hb5)
    have KB5 := Lib.hid (KB3.out.below hb5 KB3.out.lt)
    have HB5 : Hid (Below w.heap.size w w5) := HB3.out.trans (hb5.mono HB3.out.size)
    have hz5 : w3.heap.size ≤ w5.heap.size := hb5.size
    clear hb5
    clear kb0 kb1
    obtain ⟨kb0, kb1⟩ := jr_cells KB5.out
    obtain ⟨w6, HW6⟩ : ∃ Q0, Hid (w5.alloc (.cells #[.slice (some ⟨g5, 0, none⟩) n n, .int .i64 s] 29) = Q0) := ⟨_, rfl⟩
    have hb6 : Below w5.heap.size w5 w6 := by rw [← HW6.out]; exact (Below.refl _ _).alloc (Nat.le_refl _) _
    have LX6 : Hid (Blk w6 w5.heap.size 29 #[.slice (some ⟨g5, 0, none⟩) n n, .int .i64 s]) := by rw [← HW6.out]; exact Blk.new w5 _ _
    have hs6 : w5.heap.size < w6.heap.size := LX6.out.lt
    have HI6 := Lib.hid (HI5.out.belowS hb6)
    have KB6 := Lib.hid (KB5.out.below hb6 KB5.out.lt)
    have X6 := Lib.hid (X5.out.below hb6)
    have HB6 : Hid (Below w.heap.size w w6) := HB5.out.trans (hb6.mono HB5.out.size)
    have hz6 : w5.heap.size ≤ w6.heap.size := hb6.size
    clear hb6
    go_upto_region 7 with fail
    rw [HW6.out]
    clear kb0 kb1
    obtain ⟨lx0, lx1⟩ := jr_cells LX6.out
    go_wp2_with fail
    refine (IMPL.out _ _ _ (own_jat X6.out HF.out)).mono ?_
    rintro e w7 ⟨rfl, hb7⟩
    have HI7 := Lib.hid (HI6.out.belowS hb7)
    have KB7 := Lib.hid (KB6.out.below hb7 KB6.out.lt)
    have X7 := Lib.hid (X6.out.below hb7)
    have LX7 := Lib.hid (LX6.out.below hb7 LX6.out.lt)
    have HB7 : Hid (Below w.heap.size w w7) := HB6.out.trans (hb7.mono HB6.out.size)
    have hz7 : w6.heap.size ≤ w7.heap.size := hb7.size
    clear hb7
    clear lx0 lx1
    have hve : (ov != ov) = false := by simp
    obtain ⟨lx0, lx1⟩ := jr_cells LX7.out
    obtain ⟨kb0, kb1⟩ := jr_cells KB7.out
    go_upto_region 10 with fail
    (try go_wp2_with fail)
    clear lx0 lx1 kb0 kb1
    refine wp_region_held_drew (S := (fun w' => (w'.cell? ⟨w5.heap.size, 0, none⟩ = some (.slice (some ⟨g5, 0, none⟩) n n) ∧ w'.cell? ⟨w5.heap.size, 1, none⟩ = some (.int .i64 s)) ∧ (w'.cell? ⟨w.heap.size, 0, none⟩ = some (.slice A n cap) ∧ w'.cell? ⟨w.heap.size, 1, none⟩ = some (.int .i64 s)))) (by kernel_rfl) (⟨jr_cells LX7.out, jr_cells KB7.out⟩) (fun hHeld => ?_)
    refine wpAnyH_take (i := 0) (v := ?zv9001) rfl (by kernel_rfl) (by kernel_rfl) (by kernel_rfl) (fun _ _ _ h => h) (Or.inl ⟨by kernel_rfl, ?zy9001⟩) (by assumption) ?zr9001
    case zy9001 => (intro w hSw; (try dsimp only at hSw); go_simp; try with_reducible rfl)
    change wpAnyH _ _ _ _ _ _ _ (Act.put _ (some 22) _) _
    simp only [Act.put, List.setIfInBounds_toArray, List.set_cons_zero, List.set_cons_succ]
    refine wpAnyH_take (i := 1) (v := ?zv9002) rfl (by kernel_rfl) (by kernel_rfl) (by kernel_rfl) (fun _ _ _ h => h) (Or.inl ⟨by kernel_rfl, ?zy9002⟩) (by assumption) ?zr9002
    case zy9002 => (intro w hSw; (try dsimp only at hSw); go_simp; try with_reducible rfl)
    change wpAnyH _ _ _ _ _ _ _ (Act.put _ (some 23) _) _
    simp only [Act.put, List.setIfInBounds_toArray, List.set_cons_zero, List.set_cons_succ]
    refine wpAnyH_ready (rs := [2]) (by kernel_rfl) (by simp) (AllReadyH.cons rfl (fun K hK => ?_) AllReadyH.nil)
    go_simp
    go_at_call 10
    refine (toJ_any A cap s rs _ (HI7.out.drewN 1) HL.out HN.out).mono ?_
    rintro e w10 ⟨g10, rfl, ho10, hbd⟩
    have hb10 : Below w7.heap.size w7 w10 := below_drew_l hbd
    have T10 : Hid (OwnRow RK w10 w7.heap.size (some ⟨g10, 0, none⟩) n rs) := ho10
    clear hbd ho10
    have HI10 := Lib.hid (HI7.out.belowS hb10)
    have KB10 := Lib.hid (KB7.out.below hb10 KB7.out.lt)
    have X10 := Lib.hid (X7.out.below hb10)
    have LX10 := Lib.hid (LX7.out.below hb10 LX7.out.lt)
    have HB10 : Hid (Below w.heap.size w w10) := HB7.out.trans (hb10.mono HB7.out.size)
    have hz10 : w7.heap.size ≤ w10.heap.size := hb10.size
    clear hb10
    refine hK.out _ _ (⟨jr_cells LX10.out, jr_cells KB10.out⟩) (fun hHeld => ?_)
    clear hK K
    (try simp only [Act.put, List.setIfInBounds_toArray, List.set_cons_zero, List.set_cons_succ])
    refine wpAnyH_ready (rs := [3]) (by kernel_rfl) (by simp) (AllReadyH.cons rfl (fun K hK => ?_) AllReadyH.nil)
    go_simp
    go_at_call 12
    refine (eqJ_any _ n _ n s rs w10 X10.out.at_ T10.out.at_ HLM.out HN.out).mono ?_
    rintro e w11 ⟨rfl, hb11⟩
    have HI11 := Lib.hid (HI10.out.belowS hb11)
    have KB11 := Lib.hid (KB10.out.below hb11 KB10.out.lt)
    have X11 := Lib.hid (X10.out.below hb11)
    have LX11 := Lib.hid (LX10.out.below hb11 LX10.out.lt)
    have T11 := Lib.hid (T10.out.below hb11)
    have HB11 : Hid (Below w.heap.size w w11) := HB10.out.trans (hb11.mono HB10.out.size)
    have hz11 : w10.heap.size ≤ w11.heap.size := hb11.size
    clear hb11
    refine hK.out _ _ (⟨jr_cells LX11.out, jr_cells KB11.out⟩) (fun hHeld => ?_)
    clear hK K
    (try simp only [Act.put, List.setIfInBounds_toArray, List.set_cons_zero, List.set_cons_succ])
    refine wpAnyH_take (i := 4) (v := ?zv9003) rfl (by kernel_rfl) (by kernel_rfl) (by kernel_rfl) (fun _ _ _ h => h) (Or.inl ⟨by kernel_rfl, ?zy9003⟩) (by assumption) ?zr9003
    case zy9003 => (intro w hSw; (try dsimp only at hSw); go_simp; try with_reducible rfl)
    change wpAnyH _ _ _ _ _ _ _ (Act.put _ (some 26) _) _
    simp only [Act.put, List.setIfInBounds_toArray, List.set_cons_zero, List.set_cons_succ]
    refine wpAnyH_done (by kernel_rfl) ?_ _
    go_wp2
    go_ret
    exact ⟨rfl, HB11.out⟩

end Go.Proofs.Ytmddfjfflgfdlaa
