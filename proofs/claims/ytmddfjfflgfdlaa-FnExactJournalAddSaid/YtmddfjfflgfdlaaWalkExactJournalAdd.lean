/- The walk of FnExactJournalAdd: it returns true and changes nothing that was there. Condition: the arguments' cells lie in memory. -/
import Derived.Test.YtmddfjfflgfdlaaExactJour
namespace Go.Proofs.Ytmddfjfflgfdlaa
open Go.RowKit Go.Conc
set_option linter.unusedVariables false

set_option maxHeartbeats 8000000 in
set_option maxRecDepth 100000 in
theorem walkExactJournalAdd (A : Option Addr) (cap : Nat) (s : Int) (rs : List RD) (ri : Int) (rt : ByteArray) (w : World) (hI : RowAt RK w w.heap.size A rs) (hF : FitR rs) (hm : rs.length ≤ maxLen) (hr : rt.size ≤ maxLen) :
    Calls Try.prog 4 #[journalV A rs.length cap s, .agg #[.int .i64 ri, .string rt]] w fun e w' => e = .returned (.bool true) ∧ Below w.heap.size w w' := by
  have HLM0 := Lib.hid hm
  have HF := Lib.hid hF
  have HRF : Hid ((⟨ri, rt⟩ : RD).t.size ≤ maxLen) := hr
  unfold maxLen at hm
  have HI := Lib.hid hI
  clear hI hF hr
  obtain ⟨n, HN⟩ : ∃ n, Hid (rs.length = n) := ⟨_, rfl⟩
  rw [HN.out] at hm ⊢
  obtain ⟨rsx, HO⟩ : ∃ v, Hid (addR rs s ⟨ri, rt⟩ = v) := ⟨_, rfl⟩
  obtain ⟨os, HV⟩ : ∃ v, Hid (addS rs s ⟨ri, rt⟩ = v) := ⟨_, rfl⟩
  obtain ⟨ov, HVB⟩ : ∃ v, Hid (addB rs s ⟨ri, rt⟩ = v) := ⟨_, rfl⟩
  obtain ⟨mb, HM⟩ : ∃ v, Hid (rsx.length = v) := ⟨_, rfl⟩
  have HMS : Hid (rsx.length ≤ 1048576) := by show _ ≤ _; rw [← HO.out]; exact Nat.le_trans (addR_len2 rs s ⟨ri, rt⟩) (by omega)
  have HMM : Hid (rsx.length ≤ maxLen) := by show _ ≤ _; have := HMS.out; unfold maxLen; omega
  have SPEC : Hid (∀ (A : Option Addr) (cap : Nat) (U : World), JAt U U.heap.size A cap rs → Calls Try.prog 14 #[journalV A n cap s, recV ⟨ri, rt⟩] U fun e w' => ∃ A' c', e = .returned (.tuple #[journalV A' mb c' os, .bool ov]) ∧ OwnRow RK w' U.heap.size A' c' rsx ∧ Below U.heap.size U w') := fun A cap U h => by
    have h := sjadd_any A cap s rs ⟨ri, rt⟩ U h HRF.out
    rw [HO.out, HV.out, HVB.out, HN.out] at h
    refine h.mono ?_
    rintro e w' ⟨A', c', rfl, ho, -, hb⟩
    exact ⟨A', c', by rw [HM.out], ho, hb⟩
  have IMPL : Hid (∀ (A : Option Addr) (cap : Nat) (U : World), JAt U U.heap.size A cap rs → Calls Try.prog 16 #[journalV A n cap s, recV ⟨ri, rt⟩] U fun e w' => ∃ A' c', e = .returned (.tuple #[journalV A' mb c' os, .bool ov]) ∧ OwnRow RK w' U.heap.size A' c' rsx ∧ Below U.heap.size U w') := fun A cap U h => by
    have h := jadd_any A cap s rs ⟨ri, rt⟩ U h HRF.out
    rw [HO.out, HV.out, HVB.out, HN.out] at h
    refine h.mono ?_
    rintro e w' ⟨A', c', rfl, ho, -, hb⟩
    exact ⟨A', c', by rw [HM.out], ho, hb⟩
  obtain ⟨w0, HW⟩ : ∃ Q0, Hid ((w.alloc (.cells #[.slice A n cap, .int .i64 s] 24)).alloc (.cells #[.int .i64 ri, .string rt] 34) = Q0) := ⟨_, rfl⟩
  have KB0 : Hid (Blk w0 w.heap.size 24 #[.slice A n cap, .int .i64 s]) := by rw [← HW.out]; exact (Blk.new w _ _).alloc _
  have KR0 : Hid (Blk w0 (w.heap.size + 1) 34 #[.int .i64 ri, .string rt]) := by
    rw [← HW.out]
    have h := Blk.new (w.alloc (.cells #[.slice A n cap, .int .i64 s] 24)) 34 #[.int .i64 ri, .string rt]
    rw [World.size_alloc] at h
    exact h
  have HB0 : Hid (Below w.heap.size w w0) := by rw [← HW.out]; exact ((Below.refl _ w).alloc (Nat.le_refl _) _).alloc (by simp) _
  obtain ⟨gq, hgq⟩ : ∃ v, w.heap.size + 1 = v := ⟨_, rfl⟩
  rw [hgq] at KR0
  have hkb : gq < w0.heap.size := KR0.out.lt
  have HI0 := Lib.hid (HI.out.belowS HB0.out)
  go_enter Try.func4, Try.ntmps4
  go_upto_region 1 with fail
  rw [HW.out]
  obtain ⟨kb0, kb1⟩ := jr_cells KB0.out
  go_wp2_with fail
  refine (szJ_any A cap s rs w0 HI0.out HF.out HLM0.out HN.out).mono ?_
  rintro e w1 ⟨q, rfl, hq0, hq1, hq2, hb1⟩
  have HI1 := Lib.hid (HI0.out.belowS hb1)
  have KB1 := Lib.hid (KB0.out.below hb1 KB0.out.lt)
  have KR1 := Lib.hid (KR0.out.below hb1 KR0.out.lt)
  have HB1 : Hid (Below w.heap.size w w1) := HB0.out.trans (hb1.mono HB0.out.size)
  have hz1 : w0.heap.size ≤ w1.heap.size := hb1.size
  clear hb1
  clear kb0 kb1
  by_cases hq : q < 0
  · go_wp2
    go_ret
    exact ⟨rfl, HB1.out⟩
  · have hlen : n ≤ 1048576 := by have := hq2 (by omega); omega
    have HL : Hid (rs.length ≤ 1048576) := by show _ ≤ _; rw [HN.out]; exact hlen
    have HLM : Hid (rs.length ≤ maxLen) := HLM0
    have hqn : 0 ≤ q := by omega
    have hq1m : q ≤ 1048576 := hq1
    obtain ⟨kr0, kr1⟩ := jr_cells KR1.out
    go_wp2_with fail
    refine (szR_any ⟨ri, rt⟩ q w1 HRF.out hqn hq1m).mono ?_
    rintro e w2 ⟨q2, rfl, hp0, hp1, -, hb2⟩
    have HI2 := Lib.hid (HI1.out.belowS hb2)
    have KB2 := Lib.hid (KB1.out.below hb2 KB1.out.lt)
    have KR2 := Lib.hid (KR1.out.below hb2 KR1.out.lt)
    have HB2 : Hid (Below w.heap.size w w2) := HB1.out.trans (hb2.mono HB1.out.size)
    have hz2 : w1.heap.size ≤ w2.heap.size := hb2.size
    clear hb2
    clear kr0 kr1
    by_cases hqq : q2 < 0
    · go_wp2
      go_ret
      exact ⟨rfl, HB2.out⟩
    · go_upto_region 8 with fail
      go_cut [6, 7] (fun sa sb wx => ∃ (gr : Nat) (Ar : Option Addr) (cr : Nat), sa = .pointer (some ⟨gr, 0, none⟩) ∧ sb = .bool ov ∧ w2.heap.size ≤ gr ∧ Hid (Blk wx gr 29 #[.slice Ar mb cr, .int .i64 os]) ∧ Hid (OwnRow RK wx w2.heap.size Ar cr rsx) ∧ Hid (Below w2.heap.size w2 wx))
      case first =>
        (try go_wp2_with fail)
        refine wp_region_held_drew (S := (fun w' => (w'.cell? ⟨w.heap.size, 0, none⟩ = some (.slice A n cap) ∧ w'.cell? ⟨w.heap.size, 1, none⟩ = some (.int .i64 s)) ∧ (w'.cell? ⟨gq, 0, none⟩ = some (.int .i64 ri) ∧ w'.cell? ⟨gq, 1, none⟩ = some (.string rt)))) (by kernel_rfl) (⟨jr_cells KB2.out, jr_cells KR2.out⟩) (fun hHeld => ?_)
        obtain ⟨U0, HUE⟩ : ∃ U, Hid (w2.drew = U) := ⟨_, rfl⟩
        have HU0 : Hid (Below w2.heap.size w2 U0) := by rw [← HUE.out]; exact below_drew (Below.refl _ _)
        have hzu0 : w2.heap.size ≤ U0.heap.size := HU0.out.size
        rw [HUE.out] at hHeld ⊢
        refine wpAnyH_take (i := 0) (v := ?zv111001) rfl (by kernel_rfl) (by kernel_rfl) (by kernel_rfl) (fun _ _ _ h => h) (Or.inl ⟨by kernel_rfl, ?zy111001⟩) (by assumption) ?zr111001
        case zy111001 => (intro w hSw; (try dsimp only at hSw); go_simp; try with_reducible rfl)
        change wpAnyH _ _ _ _ _ _ _ (Act.put _ (some 27) _) _
        simp only [Act.put, List.setIfInBounds_toArray, List.set_cons_zero, List.set_cons_succ]
        refine wpAnyH_take (i := 2) (v := ?zv111002) rfl (by kernel_rfl) (by kernel_rfl) (by kernel_rfl) (fun _ _ _ h => h) (Or.inl ⟨by kernel_rfl, ?zy111002⟩) (by assumption) ?zr111002
        case zy111002 => (intro w hSw; (try dsimp only at hSw); go_simp; try with_reducible rfl)
        change wpAnyH _ _ _ _ _ _ _ (Act.put _ (some 29) _) _
        simp only [Act.put, List.setIfInBounds_toArray, List.set_cons_zero, List.set_cons_succ]
        refine wpAnyH_ready (rs := [1, 8]) (by kernel_rfl) (by simp) (AllReadyH.cons rfl (fun K hK => ?zo111003_0) (AllReadyH.cons rfl (fun K hK => ?zo111003_1) AllReadyH.nil))
        case zo111003_0 =>
          go_simp
          go_at_call 10
          refine (toJ_any A cap s rs U0 (HI2.out.belowS HU0.out) HL.out HN.out).mono ?_
          rintro e U1 ⟨gt, rfl, ho1, hb1⟩
          have HU1 : Hid (Below w2.heap.size w2 U1) := HU0.out.trans (hb1.mono hzu0)
          have hzu1 : w2.heap.size ≤ U1.heap.size := HU1.out.size
          have TJ1 := Lib.hid ho1
          clear ho1 hb1
          refine hK.out _ _ (⟨jr_cells (KB2.out.below HU1.out KB2.out.lt), jr_cells (KR2.out.below HU1.out KR2.out.lt)⟩) (fun hHeld => ?_)
          clear hK K
          (try simp only [Act.put, List.setIfInBounds_toArray, List.set_cons_zero, List.set_cons_succ])
          refine wpAnyH_ready (rs := [3, 8]) (by kernel_rfl) (by simp) (AllReadyH.cons rfl (fun K hK => ?zo111004_0) (AllReadyH.cons rfl (fun K hK => ?zo111004_1) AllReadyH.nil))
          case zo111004_0 =>
            go_simp
            go_at_call 15
            refine (toR_any ⟨ri, rt⟩ U1).mono ?_
            rintro e U2 ⟨rfl, hb2⟩
            have HU2 : Hid (Below w2.heap.size w2 U2) := HU1.out.trans (hb2.mono hzu1)
            have hzu2 : w2.heap.size ≤ U2.heap.size := HU2.out.size
            have TJ2 := Lib.hid (TJ1.out.below hb2)
            clear hb2
            refine hK.out _ _ (⟨jr_cells (KB2.out.below HU2.out KB2.out.lt), jr_cells (KR2.out.below HU2.out KR2.out.lt)⟩) (fun hHeld => ?_)
            clear hK K
            (try simp only [Act.put, List.setIfInBounds_toArray, List.set_cons_zero, List.set_cons_succ])
            refine wpAnyH_ready (rs := [4, 8]) (by kernel_rfl) (by simp) (AllReadyH.cons rfl (fun K hK => ?zo111005_0) (AllReadyH.cons rfl (fun K hK => ?zo111005_1) AllReadyH.nil))
            case zo111005_0 =>
              go_simp
              go_at_call 14
              refine (SPEC.out _ _ U2 (own_jat TJ2.out HF.out)).mono ?_
              rintro e U3 ⟨RA, rc, rfl, ho3, hb3⟩
              have HU3 : Hid (Below w2.heap.size w2 U3) := HU2.out.trans (hb3.mono hzu2)
              have hzu3 : w2.heap.size ≤ U3.heap.size := HU3.out.size
              have RW3 := Lib.hid (ho3.base_le hzu2)
              clear ho3 hb3
              refine hK.out _ _ (⟨jr_cells (KB2.out.below HU3.out KB2.out.lt), jr_cells (KR2.out.below HU3.out KR2.out.lt)⟩) (fun hHeld => ?_)
              clear hK K
              (try simp only [Act.put, List.setIfInBounds_toArray, List.set_cons_zero, List.set_cons_succ])
              refine wpAnyH_take (i := 5) (v := ?zv111006) rfl (by kernel_rfl) (by kernel_rfl) (by kernel_rfl) (fun _ _ _ h => h) (Or.inl ⟨by kernel_rfl, ?zy111006⟩) (by assumption) ?zr111006
              case zy111006 => (intro w hSw; (try dsimp only at hSw); go_simp; try with_reducible rfl)
              change wpAnyH _ _ _ _ _ _ _ (Act.put _ (some 26) _) _
              simp only [Act.put, List.setIfInBounds_toArray, List.set_cons_zero, List.set_cons_succ]
              refine wpAnyH_take (i := 6) (v := ?zv111007) rfl (by kernel_rfl) (by kernel_rfl) (by kernel_rfl) (fun _ _ _ h => h) (Or.inl ⟨by kernel_rfl, ?zy111007⟩) (by assumption) ?zr111007
              case zy111007 => (intro w hSw; (try dsimp only at hSw); go_simp; try with_reducible rfl)
              change wpAnyH _ _ _ _ _ _ _ (Act.put _ (some 32) _) _
              simp only [Act.put, List.setIfInBounds_toArray, List.set_cons_zero, List.set_cons_succ]
              refine wpAnyH_take (i := 7) (v := ?zv111008) rfl (by kernel_rfl) (by kernel_rfl) (by kernel_rfl) (fun _ _ _ h => h) (Or.inl ⟨by kernel_rfl, ?zy111008⟩) (by assumption) ?zr111008
              case zy111008 => (intro w hSw; (try dsimp only at hSw); go_simp; try with_reducible rfl)
              change wpAnyH _ _ _ _ _ _ _ (Act.put _ (some 33) _) _
              simp only [Act.put, List.setIfInBounds_toArray, List.set_cons_zero, List.set_cons_succ]
              refine wpAnyH_ready (rs := [8]) (by kernel_rfl) (by simp) (AllReadyH.cons rfl (fun K hK => ?zo111009_0) AllReadyH.nil)
              case zo111009_0 =>
                go_simp
                refine hK.out _ _ (⟨jr_cells (KB2.out.below (HU3.out.alloc hzu3 _) KB2.out.lt), jr_cells (KR2.out.below (HU3.out.alloc hzu3 _) KR2.out.lt)⟩) (fun hHeld => ?_)
                clear hK K
                (try simp only [Act.put, List.setIfInBounds_toArray, List.set_cons_zero, List.set_cons_succ])
                obtain ⟨U4, EU4⟩ : ∃ U, Hid (U3.alloc (.cells #[.slice none 0 0, .int .i64 0] 29) = U) := ⟨_, rfl⟩
                have hb4 : Below U3.heap.size U3 U4 := by rw [← EU4.out]; exact (Below.refl _ _).alloc (Nat.le_refl _) _
                have HU4 : Hid (Below w2.heap.size w2 U4) := HU3.out.trans (hb4.mono hzu3)
                have hzu4 : w2.heap.size ≤ U4.heap.size := HU4.out.size
                have RW4 := Lib.hid (RW3.out.below hb4)
                have KT4 : Hid (Blk U4 U3.heap.size 29 #[.slice none 0 0, .int .i64 0]) := by rw [← EU4.out]; exact Blk.new U3 _ _
                clear hb4
                rw [EU4.out] at hHeld ⊢
                refine wpAnyH_ready (rs := [9]) (by kernel_rfl) (by simp) (AllReadyH.cons rfl (fun K hK => ?zo111010_0) AllReadyH.nil)
                case zo111010_0 =>
                  go_simp
                  obtain ⟨n0, n1⟩ := jr_cells KT4.out
                  have nf := blk_frozen KT4.out
                  obtain ⟨U5, EU5⟩ : ∃ Q0, Hid ((U4.setCell ⟨U3.heap.size, 0, none⟩ (.slice RA mb rc)).setCell ⟨U3.heap.size, 1, none⟩ (.int .i64 os) = Q0) := ⟨_, rfl⟩
                  have KT5 : Hid (Blk U5 U3.heap.size 29 #[.slice RA mb rc, .int .i64 os]) := by rw [← EU5.out]; exact blk_two KT4.out _ _
                  have RW5 : Hid (OwnRow RK U5 w2.heap.size RA rc rsx) := by rw [← EU5.out]; exact rown_two RW4.out KT4.out _ _
                  have hgg5 : w2.heap.size ≤ U3.heap.size := by have h := hzu3; exact h
                  have HU5 : Hid (Below w2.heap.size w2 U5) := by rw [← EU5.out]; exact below_two HU4.out hgg5 _ _
                  have hzu5 : w2.heap.size ≤ U5.heap.size := HU5.out.size
                  go_simp
                  rw [EU5.out]
                  refine hK.out _ _ (⟨jr_cells (KB2.out.below HU5.out KB2.out.lt), jr_cells (KR2.out.below HU5.out KR2.out.lt)⟩) (fun hHeld => ?_)
                  clear hK K
                  (try simp only [Act.put])
                  clear n0 n1 nf
                  refine wpAnyH_take (i := 10) (v := ?zv111011) rfl (by kernel_rfl) (by kernel_rfl) (by kernel_rfl) (fun _ _ _ h => h) (Or.inl ⟨by kernel_rfl, ?zy111011⟩) (by assumption) ?zr111011
                  case zy111011 => (intro w hSw; (try dsimp only at hSw); go_simp; try with_reducible rfl)
                  change wpAnyH _ _ _ _ _ _ _ (Act.put _ (some 7) _) _
                  simp only [Act.put, List.setIfInBounds_toArray, List.set_cons_zero, List.set_cons_succ]
                  refine wpAnyH_done (by kernel_rfl) ?_ _
                  (try go_wp2_with fail)
                  go_meet
                  exact ⟨_, RA, rc, rfl, rfl, hgg5, KT5, RW5, HU5⟩
            case zo111005_1 =>
              go_simp
              refine hK.out _ _ (⟨jr_cells (KB2.out.below (HU2.out.alloc hzu2 _) KB2.out.lt), jr_cells (KR2.out.below (HU2.out.alloc hzu2 _) KR2.out.lt)⟩) (fun hHeld => ?_)
              clear hK K
              (try simp only [Act.put, List.setIfInBounds_toArray, List.set_cons_zero, List.set_cons_succ])
              obtain ⟨U3, EU3⟩ : ∃ U, Hid (U2.alloc (.cells #[.slice none 0 0, .int .i64 0] 29) = U) := ⟨_, rfl⟩
              have hb3 : Below U2.heap.size U2 U3 := by rw [← EU3.out]; exact (Below.refl _ _).alloc (Nat.le_refl _) _
              have HU3 : Hid (Below w2.heap.size w2 U3) := HU2.out.trans (hb3.mono hzu2)
              have hzu3 : w2.heap.size ≤ U3.heap.size := HU3.out.size
              have TJ3 := Lib.hid (TJ2.out.below hb3)
              have KT3 : Hid (Blk U3 U2.heap.size 29 #[.slice none 0 0, .int .i64 0]) := by rw [← EU3.out]; exact Blk.new U2 _ _
              clear hb3
              rw [EU3.out] at hHeld ⊢
              refine wpAnyH_ready (rs := [4]) (by kernel_rfl) (by simp) (AllReadyH.cons rfl (fun K hK => ?zo111012_0) AllReadyH.nil)
              case zo111012_0 =>
                go_simp
                go_at_call 14
                refine (SPEC.out _ _ U3 (own_jat TJ3.out HF.out)).mono ?_
                rintro e U4 ⟨RA, rc, rfl, ho4, hb4⟩
                have HU4 : Hid (Below w2.heap.size w2 U4) := HU3.out.trans (hb4.mono hzu3)
                have hzu4 : w2.heap.size ≤ U4.heap.size := HU4.out.size
                have KT4 := Lib.hid (KT3.out.below hb4 KT3.out.lt)
                have RW4 := Lib.hid (ho4.base_le hzu3)
                clear ho4 hb4
                refine hK.out _ _ (⟨jr_cells (KB2.out.below HU4.out KB2.out.lt), jr_cells (KR2.out.below HU4.out KR2.out.lt)⟩) (fun hHeld => ?_)
                clear hK K
                (try simp only [Act.put, List.setIfInBounds_toArray, List.set_cons_zero, List.set_cons_succ])
                refine wpAnyH_take (i := 5) (v := ?zv111013) rfl (by kernel_rfl) (by kernel_rfl) (by kernel_rfl) (fun _ _ _ h => h) (Or.inl ⟨by kernel_rfl, ?zy111013⟩) (by assumption) ?zr111013
                case zy111013 => (intro w hSw; (try dsimp only at hSw); go_simp; try with_reducible rfl)
                change wpAnyH _ _ _ _ _ _ _ (Act.put _ (some 26) _) _
                simp only [Act.put, List.setIfInBounds_toArray, List.set_cons_zero, List.set_cons_succ]
                refine wpAnyH_take (i := 6) (v := ?zv111014) rfl (by kernel_rfl) (by kernel_rfl) (by kernel_rfl) (fun _ _ _ h => h) (Or.inl ⟨by kernel_rfl, ?zy111014⟩) (by assumption) ?zr111014
                case zy111014 => (intro w hSw; (try dsimp only at hSw); go_simp; try with_reducible rfl)
                change wpAnyH _ _ _ _ _ _ _ (Act.put _ (some 32) _) _
                simp only [Act.put, List.setIfInBounds_toArray, List.set_cons_zero, List.set_cons_succ]
                refine wpAnyH_take (i := 7) (v := ?zv111015) rfl (by kernel_rfl) (by kernel_rfl) (by kernel_rfl) (fun _ _ _ h => h) (Or.inl ⟨by kernel_rfl, ?zy111015⟩) (by assumption) ?zr111015
                case zy111015 => (intro w hSw; (try dsimp only at hSw); go_simp; try with_reducible rfl)
                change wpAnyH _ _ _ _ _ _ _ (Act.put _ (some 33) _) _
                simp only [Act.put, List.setIfInBounds_toArray, List.set_cons_zero, List.set_cons_succ]
                refine wpAnyH_ready (rs := [9]) (by kernel_rfl) (by simp) (AllReadyH.cons rfl (fun K hK => ?zo111016_0) AllReadyH.nil)
                case zo111016_0 =>
                  go_simp
                  obtain ⟨n0, n1⟩ := jr_cells KT4.out
                  have nf := blk_frozen KT4.out
                  obtain ⟨U5, EU5⟩ : ∃ Q0, Hid ((U4.setCell ⟨U2.heap.size, 0, none⟩ (.slice RA mb rc)).setCell ⟨U2.heap.size, 1, none⟩ (.int .i64 os) = Q0) := ⟨_, rfl⟩
                  have KT5 : Hid (Blk U5 U2.heap.size 29 #[.slice RA mb rc, .int .i64 os]) := by rw [← EU5.out]; exact blk_two KT4.out _ _
                  have RW5 : Hid (OwnRow RK U5 w2.heap.size RA rc rsx) := by rw [← EU5.out]; exact rown_two RW4.out KT4.out _ _
                  have hgg5 : w2.heap.size ≤ U2.heap.size := by have h := hzu2; exact h
                  have HU5 : Hid (Below w2.heap.size w2 U5) := by rw [← EU5.out]; exact below_two HU4.out hgg5 _ _
                  have hzu5 : w2.heap.size ≤ U5.heap.size := HU5.out.size
                  go_simp
                  rw [EU5.out]
                  refine hK.out _ _ (⟨jr_cells (KB2.out.below HU5.out KB2.out.lt), jr_cells (KR2.out.below HU5.out KR2.out.lt)⟩) (fun hHeld => ?_)
                  clear hK K
                  (try simp only [Act.put])
                  clear n0 n1 nf
                  refine wpAnyH_take (i := 10) (v := ?zv111017) rfl (by kernel_rfl) (by kernel_rfl) (by kernel_rfl) (fun _ _ _ h => h) (Or.inl ⟨by kernel_rfl, ?zy111017⟩) (by assumption) ?zr111017
                  case zy111017 => (intro w hSw; (try dsimp only at hSw); go_simp; try with_reducible rfl)
                  change wpAnyH _ _ _ _ _ _ _ (Act.put _ (some 7) _) _
                  simp only [Act.put, List.setIfInBounds_toArray, List.set_cons_zero, List.set_cons_succ]
                  refine wpAnyH_done (by kernel_rfl) ?_ _
                  (try go_wp2_with fail)
                  go_meet
                  exact ⟨_, RA, rc, rfl, rfl, hgg5, KT5, RW5, HU5⟩
          case zo111004_1 =>
            go_simp
            refine hK.out _ _ (⟨jr_cells (KB2.out.below (HU1.out.alloc hzu1 _) KB2.out.lt), jr_cells (KR2.out.below (HU1.out.alloc hzu1 _) KR2.out.lt)⟩) (fun hHeld => ?_)
            clear hK K
            (try simp only [Act.put, List.setIfInBounds_toArray, List.set_cons_zero, List.set_cons_succ])
            obtain ⟨U2, EU2⟩ : ∃ U, Hid (U1.alloc (.cells #[.slice none 0 0, .int .i64 0] 29) = U) := ⟨_, rfl⟩
            have hb2 : Below U1.heap.size U1 U2 := by rw [← EU2.out]; exact (Below.refl _ _).alloc (Nat.le_refl _) _
            have HU2 : Hid (Below w2.heap.size w2 U2) := HU1.out.trans (hb2.mono hzu1)
            have hzu2 : w2.heap.size ≤ U2.heap.size := HU2.out.size
            have TJ2 := Lib.hid (TJ1.out.below hb2)
            have KT2 : Hid (Blk U2 U1.heap.size 29 #[.slice none 0 0, .int .i64 0]) := by rw [← EU2.out]; exact Blk.new U1 _ _
            clear hb2
            rw [EU2.out] at hHeld ⊢
            refine wpAnyH_ready (rs := [3]) (by kernel_rfl) (by simp) (AllReadyH.cons rfl (fun K hK => ?zo111018_0) AllReadyH.nil)
            case zo111018_0 =>
              go_simp
              go_at_call 15
              refine (toR_any ⟨ri, rt⟩ U2).mono ?_
              rintro e U3 ⟨rfl, hb3⟩
              have HU3 : Hid (Below w2.heap.size w2 U3) := HU2.out.trans (hb3.mono hzu2)
              have hzu3 : w2.heap.size ≤ U3.heap.size := HU3.out.size
              have TJ3 := Lib.hid (TJ2.out.below hb3)
              have KT3 := Lib.hid (KT2.out.below hb3 KT2.out.lt)
              clear hb3
              refine hK.out _ _ (⟨jr_cells (KB2.out.below HU3.out KB2.out.lt), jr_cells (KR2.out.below HU3.out KR2.out.lt)⟩) (fun hHeld => ?_)
              clear hK K
              (try simp only [Act.put, List.setIfInBounds_toArray, List.set_cons_zero, List.set_cons_succ])
              refine wpAnyH_ready (rs := [4]) (by kernel_rfl) (by simp) (AllReadyH.cons rfl (fun K hK => ?zo111019_0) AllReadyH.nil)
              case zo111019_0 =>
                go_simp
                go_at_call 14
                refine (SPEC.out _ _ U3 (own_jat TJ3.out HF.out)).mono ?_
                rintro e U4 ⟨RA, rc, rfl, ho4, hb4⟩
                have HU4 : Hid (Below w2.heap.size w2 U4) := HU3.out.trans (hb4.mono hzu3)
                have hzu4 : w2.heap.size ≤ U4.heap.size := HU4.out.size
                have KT4 := Lib.hid (KT3.out.below hb4 KT3.out.lt)
                have RW4 := Lib.hid (ho4.base_le hzu3)
                clear ho4 hb4
                refine hK.out _ _ (⟨jr_cells (KB2.out.below HU4.out KB2.out.lt), jr_cells (KR2.out.below HU4.out KR2.out.lt)⟩) (fun hHeld => ?_)
                clear hK K
                (try simp only [Act.put, List.setIfInBounds_toArray, List.set_cons_zero, List.set_cons_succ])
                refine wpAnyH_take (i := 5) (v := ?zv111020) rfl (by kernel_rfl) (by kernel_rfl) (by kernel_rfl) (fun _ _ _ h => h) (Or.inl ⟨by kernel_rfl, ?zy111020⟩) (by assumption) ?zr111020
                case zy111020 => (intro w hSw; (try dsimp only at hSw); go_simp; try with_reducible rfl)
                change wpAnyH _ _ _ _ _ _ _ (Act.put _ (some 26) _) _
                simp only [Act.put, List.setIfInBounds_toArray, List.set_cons_zero, List.set_cons_succ]
                refine wpAnyH_take (i := 6) (v := ?zv111021) rfl (by kernel_rfl) (by kernel_rfl) (by kernel_rfl) (fun _ _ _ h => h) (Or.inl ⟨by kernel_rfl, ?zy111021⟩) (by assumption) ?zr111021
                case zy111021 => (intro w hSw; (try dsimp only at hSw); go_simp; try with_reducible rfl)
                change wpAnyH _ _ _ _ _ _ _ (Act.put _ (some 32) _) _
                simp only [Act.put, List.setIfInBounds_toArray, List.set_cons_zero, List.set_cons_succ]
                refine wpAnyH_take (i := 7) (v := ?zv111022) rfl (by kernel_rfl) (by kernel_rfl) (by kernel_rfl) (fun _ _ _ h => h) (Or.inl ⟨by kernel_rfl, ?zy111022⟩) (by assumption) ?zr111022
                case zy111022 => (intro w hSw; (try dsimp only at hSw); go_simp; try with_reducible rfl)
                change wpAnyH _ _ _ _ _ _ _ (Act.put _ (some 33) _) _
                simp only [Act.put, List.setIfInBounds_toArray, List.set_cons_zero, List.set_cons_succ]
                refine wpAnyH_ready (rs := [9]) (by kernel_rfl) (by simp) (AllReadyH.cons rfl (fun K hK => ?zo111023_0) AllReadyH.nil)
                case zo111023_0 =>
                  go_simp
                  obtain ⟨n0, n1⟩ := jr_cells KT4.out
                  have nf := blk_frozen KT4.out
                  obtain ⟨U5, EU5⟩ : ∃ Q0, Hid ((U4.setCell ⟨U1.heap.size, 0, none⟩ (.slice RA mb rc)).setCell ⟨U1.heap.size, 1, none⟩ (.int .i64 os) = Q0) := ⟨_, rfl⟩
                  have KT5 : Hid (Blk U5 U1.heap.size 29 #[.slice RA mb rc, .int .i64 os]) := by rw [← EU5.out]; exact blk_two KT4.out _ _
                  have RW5 : Hid (OwnRow RK U5 w2.heap.size RA rc rsx) := by rw [← EU5.out]; exact rown_two RW4.out KT4.out _ _
                  have hgg5 : w2.heap.size ≤ U1.heap.size := by have h := hzu1; exact h
                  have HU5 : Hid (Below w2.heap.size w2 U5) := by rw [← EU5.out]; exact below_two HU4.out hgg5 _ _
                  have hzu5 : w2.heap.size ≤ U5.heap.size := HU5.out.size
                  go_simp
                  rw [EU5.out]
                  refine hK.out _ _ (⟨jr_cells (KB2.out.below HU5.out KB2.out.lt), jr_cells (KR2.out.below HU5.out KR2.out.lt)⟩) (fun hHeld => ?_)
                  clear hK K
                  (try simp only [Act.put])
                  clear n0 n1 nf
                  refine wpAnyH_take (i := 10) (v := ?zv111024) rfl (by kernel_rfl) (by kernel_rfl) (by kernel_rfl) (fun _ _ _ h => h) (Or.inl ⟨by kernel_rfl, ?zy111024⟩) (by assumption) ?zr111024
                  case zy111024 => (intro w hSw; (try dsimp only at hSw); go_simp; try with_reducible rfl)
                  change wpAnyH _ _ _ _ _ _ _ (Act.put _ (some 7) _) _
                  simp only [Act.put, List.setIfInBounds_toArray, List.set_cons_zero, List.set_cons_succ]
                  refine wpAnyH_done (by kernel_rfl) ?_ _
                  (try go_wp2_with fail)
                  go_meet
                  exact ⟨_, RA, rc, rfl, rfl, hgg5, KT5, RW5, HU5⟩
        case zo111003_1 =>
          go_simp
          refine hK.out _ _ (⟨jr_cells (KB2.out.below (HU0.out.alloc hzu0 _) KB2.out.lt), jr_cells (KR2.out.below (HU0.out.alloc hzu0 _) KR2.out.lt)⟩) (fun hHeld => ?_)
          clear hK K
          (try simp only [Act.put, List.setIfInBounds_toArray, List.set_cons_zero, List.set_cons_succ])
          obtain ⟨U1, EU1⟩ : ∃ U, Hid (U0.alloc (.cells #[.slice none 0 0, .int .i64 0] 29) = U) := ⟨_, rfl⟩
          have hb1 : Below U0.heap.size U0 U1 := by rw [← EU1.out]; exact (Below.refl _ _).alloc (Nat.le_refl _) _
          have HU1 : Hid (Below w2.heap.size w2 U1) := HU0.out.trans (hb1.mono hzu0)
          have hzu1 : w2.heap.size ≤ U1.heap.size := HU1.out.size
          have KT1 : Hid (Blk U1 U0.heap.size 29 #[.slice none 0 0, .int .i64 0]) := by rw [← EU1.out]; exact Blk.new U0 _ _
          clear hb1
          rw [EU1.out] at hHeld ⊢
          refine wpAnyH_ready (rs := [1]) (by kernel_rfl) (by simp) (AllReadyH.cons rfl (fun K hK => ?zo111025_0) AllReadyH.nil)
          case zo111025_0 =>
            go_simp
            go_at_call 10
            refine (toJ_any A cap s rs U1 (HI2.out.belowS HU1.out) HL.out HN.out).mono ?_
            rintro e U2 ⟨gt, rfl, ho2, hb2⟩
            have HU2 : Hid (Below w2.heap.size w2 U2) := HU1.out.trans (hb2.mono hzu1)
            have hzu2 : w2.heap.size ≤ U2.heap.size := HU2.out.size
            have KT2 := Lib.hid (KT1.out.below hb2 KT1.out.lt)
            have TJ2 := Lib.hid ho2
            clear ho2 hb2
            refine hK.out _ _ (⟨jr_cells (KB2.out.below HU2.out KB2.out.lt), jr_cells (KR2.out.below HU2.out KR2.out.lt)⟩) (fun hHeld => ?_)
            clear hK K
            (try simp only [Act.put, List.setIfInBounds_toArray, List.set_cons_zero, List.set_cons_succ])
            refine wpAnyH_ready (rs := [3]) (by kernel_rfl) (by simp) (AllReadyH.cons rfl (fun K hK => ?zo111026_0) AllReadyH.nil)
            case zo111026_0 =>
              go_simp
              go_at_call 15
              refine (toR_any ⟨ri, rt⟩ U2).mono ?_
              rintro e U3 ⟨rfl, hb3⟩
              have HU3 : Hid (Below w2.heap.size w2 U3) := HU2.out.trans (hb3.mono hzu2)
              have hzu3 : w2.heap.size ≤ U3.heap.size := HU3.out.size
              have KT3 := Lib.hid (KT2.out.below hb3 KT2.out.lt)
              have TJ3 := Lib.hid (TJ2.out.below hb3)
              clear hb3
              refine hK.out _ _ (⟨jr_cells (KB2.out.below HU3.out KB2.out.lt), jr_cells (KR2.out.below HU3.out KR2.out.lt)⟩) (fun hHeld => ?_)
              clear hK K
              (try simp only [Act.put, List.setIfInBounds_toArray, List.set_cons_zero, List.set_cons_succ])
              refine wpAnyH_ready (rs := [4]) (by kernel_rfl) (by simp) (AllReadyH.cons rfl (fun K hK => ?zo111027_0) AllReadyH.nil)
              case zo111027_0 =>
                go_simp
                go_at_call 14
                refine (SPEC.out _ _ U3 (own_jat TJ3.out HF.out)).mono ?_
                rintro e U4 ⟨RA, rc, rfl, ho4, hb4⟩
                have HU4 : Hid (Below w2.heap.size w2 U4) := HU3.out.trans (hb4.mono hzu3)
                have hzu4 : w2.heap.size ≤ U4.heap.size := HU4.out.size
                have KT4 := Lib.hid (KT3.out.below hb4 KT3.out.lt)
                have RW4 := Lib.hid (ho4.base_le hzu3)
                clear ho4 hb4
                refine hK.out _ _ (⟨jr_cells (KB2.out.below HU4.out KB2.out.lt), jr_cells (KR2.out.below HU4.out KR2.out.lt)⟩) (fun hHeld => ?_)
                clear hK K
                (try simp only [Act.put, List.setIfInBounds_toArray, List.set_cons_zero, List.set_cons_succ])
                refine wpAnyH_take (i := 5) (v := ?zv111028) rfl (by kernel_rfl) (by kernel_rfl) (by kernel_rfl) (fun _ _ _ h => h) (Or.inl ⟨by kernel_rfl, ?zy111028⟩) (by assumption) ?zr111028
                case zy111028 => (intro w hSw; (try dsimp only at hSw); go_simp; try with_reducible rfl)
                change wpAnyH _ _ _ _ _ _ _ (Act.put _ (some 26) _) _
                simp only [Act.put, List.setIfInBounds_toArray, List.set_cons_zero, List.set_cons_succ]
                refine wpAnyH_take (i := 6) (v := ?zv111029) rfl (by kernel_rfl) (by kernel_rfl) (by kernel_rfl) (fun _ _ _ h => h) (Or.inl ⟨by kernel_rfl, ?zy111029⟩) (by assumption) ?zr111029
                case zy111029 => (intro w hSw; (try dsimp only at hSw); go_simp; try with_reducible rfl)
                change wpAnyH _ _ _ _ _ _ _ (Act.put _ (some 32) _) _
                simp only [Act.put, List.setIfInBounds_toArray, List.set_cons_zero, List.set_cons_succ]
                refine wpAnyH_take (i := 7) (v := ?zv111030) rfl (by kernel_rfl) (by kernel_rfl) (by kernel_rfl) (fun _ _ _ h => h) (Or.inl ⟨by kernel_rfl, ?zy111030⟩) (by assumption) ?zr111030
                case zy111030 => (intro w hSw; (try dsimp only at hSw); go_simp; try with_reducible rfl)
                change wpAnyH _ _ _ _ _ _ _ (Act.put _ (some 33) _) _
                simp only [Act.put, List.setIfInBounds_toArray, List.set_cons_zero, List.set_cons_succ]
                refine wpAnyH_ready (rs := [9]) (by kernel_rfl) (by simp) (AllReadyH.cons rfl (fun K hK => ?zo111031_0) AllReadyH.nil)
                case zo111031_0 =>
                  go_simp
                  obtain ⟨n0, n1⟩ := jr_cells KT4.out
                  have nf := blk_frozen KT4.out
                  obtain ⟨U5, EU5⟩ : ∃ Q0, Hid ((U4.setCell ⟨U0.heap.size, 0, none⟩ (.slice RA mb rc)).setCell ⟨U0.heap.size, 1, none⟩ (.int .i64 os) = Q0) := ⟨_, rfl⟩
                  have KT5 : Hid (Blk U5 U0.heap.size 29 #[.slice RA mb rc, .int .i64 os]) := by rw [← EU5.out]; exact blk_two KT4.out _ _
                  have RW5 : Hid (OwnRow RK U5 w2.heap.size RA rc rsx) := by rw [← EU5.out]; exact rown_two RW4.out KT4.out _ _
                  have hgg5 : w2.heap.size ≤ U0.heap.size := by have h := hzu0; exact h
                  have HU5 : Hid (Below w2.heap.size w2 U5) := by rw [← EU5.out]; exact below_two HU4.out hgg5 _ _
                  have hzu5 : w2.heap.size ≤ U5.heap.size := HU5.out.size
                  go_simp
                  rw [EU5.out]
                  refine hK.out _ _ (⟨jr_cells (KB2.out.below HU5.out KB2.out.lt), jr_cells (KR2.out.below HU5.out KR2.out.lt)⟩) (fun hHeld => ?_)
                  clear hK K
                  (try simp only [Act.put])
                  clear n0 n1 nf
                  refine wpAnyH_take (i := 10) (v := ?zv111032) rfl (by kernel_rfl) (by kernel_rfl) (by kernel_rfl) (fun _ _ _ h => h) (Or.inl ⟨by kernel_rfl, ?zy111032⟩) (by assumption) ?zr111032
                  case zy111032 => (intro w hSw; (try dsimp only at hSw); go_simp; try with_reducible rfl)
                  change wpAnyH _ _ _ _ _ _ _ (Act.put _ (some 7) _) _
                  simp only [Act.put, List.setIfInBounds_toArray, List.set_cons_zero, List.set_cons_succ]
                  refine wpAnyH_done (by kernel_rfl) ?_ _
                  (try go_wp2_with fail)
                  go_meet
                  exact ⟨_, RA, rc, rfl, rfl, hgg5, KT5, RW5, HU5⟩
      case rest =>
        obtain ⟨w4, hwn⟩ : ∃ y, y = wc := ⟨_, rfl⟩
        subst hwn
        obtain ⟨gw, A3, c3, rfl, rfl, hr4, LW4, RW4, hbc4⟩ := hcut
        have hb4 := hbc4.out
        have hlr4 : gw < w4.heap.size := LW4.out.lt
        have hne4 : ∀ g, A3 = some ⟨g, 0, none⟩ → g ≠ gw := fun g hA => own_ne_blk RW4.out LW4.out (by decide) g hA
        have hla4 : Hid (∀ g, A3 = some ⟨g, 0, none⟩ → w2.heap.size ≤ g ∧ g < w4.heap.size) := RW4.out.lies
        have HI4 := Lib.hid (HI2.out.belowS hb4)
        have KB4 := Lib.hid (KB2.out.below hb4 KB2.out.lt)
        have KR4 := Lib.hid (KR2.out.below hb4 KR2.out.lt)
        have HB4 : Hid (Below w.heap.size w w4) := HB2.out.trans (hb4.mono HB2.out.size)
        have hz4 : w2.heap.size ≤ w4.heap.size := hb4.size
        clear hb4
        clear hbc4
        obtain ⟨kb0, kb1⟩ := jr_cells KB4.out
        obtain ⟨lw0, lw1⟩ := jr_cells LW4.out
        obtain ⟨kr0, kr1⟩ := jr_cells KR4.out
        clear kb0 kb1 lw0 lw1 kr0 kr1
        obtain ⟨kb0, kb1⟩ := jr_cells KB4.out
        go_wp2_with fail
        refine (toJ_any A cap s rs w4 HI4.out HL.out HN.out).mono ?_
        rintro e w6 ⟨g6, rfl, ho6, hb6⟩
        have X6 := Lib.hid ho6
        have hg6 : w4.heap.size ≤ g6 ∧ g6 < w6.heap.size := ho6.lies _ rfl
        clear ho6
        have HI6 := Lib.hid (HI4.out.belowS hb6)
        have KB6 := Lib.hid (KB4.out.below hb6 KB4.out.lt)
        have KR6 := Lib.hid (KR4.out.below hb6 KR4.out.lt)
        have RW6 := Lib.hid (RW4.out.below hb6)
        have LW6 := Lib.hid (LW4.out.below hb6 LW4.out.lt)
        have HB6 : Hid (Below w.heap.size w w6) := HB4.out.trans (hb6.mono HB4.out.size)
        have hz6 : w4.heap.size ≤ w6.heap.size := hb6.size
        clear hb6
        clear kb0 kb1
        obtain ⟨w7, HW7⟩ : ∃ Q0, Hid (w6.alloc (.cells #[.slice (some ⟨g6, 0, none⟩) n n, .int .i64 s] 29) = Q0) := ⟨_, rfl⟩
        have hb7 : Below w6.heap.size w6 w7 := by rw [← HW7.out]; exact (Below.refl _ _).alloc (Nat.le_refl _) _
        have LX7 : Hid (Blk w7 w6.heap.size 29 #[.slice (some ⟨g6, 0, none⟩) n n, .int .i64 s]) := by rw [← HW7.out]; exact Blk.new w6 _ _
        have hs7 : w6.heap.size < w7.heap.size := LX7.out.lt
        have HI7 := Lib.hid (HI6.out.belowS hb7)
        have KB7 := Lib.hid (KB6.out.below hb7 KB6.out.lt)
        have KR7 := Lib.hid (KR6.out.below hb7 KR6.out.lt)
        have RW7 := Lib.hid (RW6.out.below hb7)
        have LW7 := Lib.hid (LW6.out.below hb7 LW6.out.lt)
        have X7 := Lib.hid (X6.out.below hb7)
        have HB7 : Hid (Below w.heap.size w w7) := HB6.out.trans (hb7.mono HB6.out.size)
        have hz7 : w6.heap.size ≤ w7.heap.size := hb7.size
        clear hb7
        go_upto_region 10 with fail
        rw [HW7.out]
        obtain ⟨lx0, lx1⟩ := jr_cells LX7.out
        obtain ⟨kr0, kr1⟩ := jr_cells KR7.out
        clear lx0 lx1 kr0 kr1
        go_cut [9, 10] (fun sa sb wx => ∃ (gr : Nat) (Ar : Option Addr) (cr : Nat), sa = .pointer (some ⟨gr, 0, none⟩) ∧ sb = .bool ov ∧ w7.heap.size ≤ gr ∧ Hid (Blk wx gr 29 #[.slice Ar mb cr, .int .i64 os]) ∧ Hid (OwnRow RK wx w7.heap.size Ar cr rsx) ∧ Hid (Below w7.heap.size w7 wx))
        case first =>
          (try go_wp2_with fail)
          refine wp_region_held_drew (S := (fun w' => (w'.cell? ⟨w6.heap.size, 0, none⟩ = some (.slice (some ⟨g6, 0, none⟩) n n) ∧ w'.cell? ⟨w6.heap.size, 1, none⟩ = some (.int .i64 s)) ∧ (w'.cell? ⟨gq, 0, none⟩ = some (.int .i64 ri) ∧ w'.cell? ⟨gq, 1, none⟩ = some (.string rt)))) (by kernel_rfl) (⟨jr_cells LX7.out, jr_cells KR7.out⟩) (fun hHeld => ?_)
          obtain ⟨U0, HUE⟩ : ∃ U, Hid (w7.drew = U) := ⟨_, rfl⟩
          have HU0 : Hid (Below w7.heap.size w7 U0) := by rw [← HUE.out]; exact below_drew (Below.refl _ _)
          have hzu0 : w7.heap.size ≤ U0.heap.size := HU0.out.size
          rw [HUE.out] at hHeld ⊢
          refine wpAnyH_take (i := 0) (v := ?zv111033) rfl (by kernel_rfl) (by kernel_rfl) (by kernel_rfl) (fun _ _ _ h => h) (Or.inl ⟨by kernel_rfl, ?zy111033⟩) (by assumption) ?zr111033
          case zy111033 => (intro w hSw; (try dsimp only at hSw); go_simp; try with_reducible rfl)
          change wpAnyH _ _ _ _ _ _ _ (Act.put _ (some 37) _) _
          simp only [Act.put, List.setIfInBounds_toArray, List.set_cons_zero, List.set_cons_succ]
          refine wpAnyH_take (i := 1) (v := ?zv111034) rfl (by kernel_rfl) (by kernel_rfl) (by kernel_rfl) (fun _ _ _ h => h) (Or.inl ⟨by kernel_rfl, ?zy111034⟩) (by assumption) ?zr111034
          case zy111034 => (intro w hSw; (try dsimp only at hSw); go_simp; try with_reducible rfl)
          change wpAnyH _ _ _ _ _ _ _ (Act.put _ (some 38) _) _
          simp only [Act.put, List.setIfInBounds_toArray, List.set_cons_zero, List.set_cons_succ]
          refine wpAnyH_ready (rs := [2, 7]) (by kernel_rfl) (by simp) (AllReadyH.cons rfl (fun K hK => ?zo111035_0) (AllReadyH.cons rfl (fun K hK => ?zo111035_1) AllReadyH.nil))
          case zo111035_0 =>
            go_simp
            go_at_call 15
            refine (toR_any ⟨ri, rt⟩ U0).mono ?_
            rintro e U1 ⟨rfl, hb1⟩
            have HU1 : Hid (Below w7.heap.size w7 U1) := HU0.out.trans (hb1.mono hzu0)
            have hzu1 : w7.heap.size ≤ U1.heap.size := HU1.out.size
            clear hb1
            refine hK.out _ _ (⟨jr_cells (LX7.out.below HU1.out LX7.out.lt), jr_cells (KR7.out.below HU1.out KR7.out.lt)⟩) (fun hHeld => ?_)
            clear hK K
            (try simp only [Act.put, List.setIfInBounds_toArray, List.set_cons_zero, List.set_cons_succ])
            refine wpAnyH_ready (rs := [3, 7]) (by kernel_rfl) (by simp) (AllReadyH.cons rfl (fun K hK => ?zo111036_0) (AllReadyH.cons rfl (fun K hK => ?zo111036_1) AllReadyH.nil))
            case zo111036_0 =>
              go_simp
              go_at_call 16
              refine (IMPL.out _ _ U1 (own_jat (X7.out.below HU1.out) HF.out)).mono ?_
              rintro e U2 ⟨RA, rc, rfl, ho2, hb2⟩
              have HU2 : Hid (Below w7.heap.size w7 U2) := HU1.out.trans (hb2.mono hzu1)
              have hzu2 : w7.heap.size ≤ U2.heap.size := HU2.out.size
              have RW2 := Lib.hid (ho2.base_le hzu1)
              clear ho2 hb2
              refine hK.out _ _ (⟨jr_cells (LX7.out.below HU2.out LX7.out.lt), jr_cells (KR7.out.below HU2.out KR7.out.lt)⟩) (fun hHeld => ?_)
              clear hK K
              (try simp only [Act.put, List.setIfInBounds_toArray, List.set_cons_zero, List.set_cons_succ])
              refine wpAnyH_take (i := 4) (v := ?zv111037) rfl (by kernel_rfl) (by kernel_rfl) (by kernel_rfl) (fun _ _ _ h => h) (Or.inl ⟨by kernel_rfl, ?zy111037⟩) (by assumption) ?zr111037
              case zy111037 => (intro w hSw; (try dsimp only at hSw); go_simp; try with_reducible rfl)
              change wpAnyH _ _ _ _ _ _ _ (Act.put _ (some 36) _) _
              simp only [Act.put, List.setIfInBounds_toArray, List.set_cons_zero, List.set_cons_succ]
              refine wpAnyH_take (i := 5) (v := ?zv111038) rfl (by kernel_rfl) (by kernel_rfl) (by kernel_rfl) (fun _ _ _ h => h) (Or.inl ⟨by kernel_rfl, ?zy111038⟩) (by assumption) ?zr111038
              case zy111038 => (intro w hSw; (try dsimp only at hSw); go_simp; try with_reducible rfl)
              change wpAnyH _ _ _ _ _ _ _ (Act.put _ (some 41) _) _
              simp only [Act.put, List.setIfInBounds_toArray, List.set_cons_zero, List.set_cons_succ]
              refine wpAnyH_take (i := 6) (v := ?zv111039) rfl (by kernel_rfl) (by kernel_rfl) (by kernel_rfl) (fun _ _ _ h => h) (Or.inl ⟨by kernel_rfl, ?zy111039⟩) (by assumption) ?zr111039
              case zy111039 => (intro w hSw; (try dsimp only at hSw); go_simp; try with_reducible rfl)
              change wpAnyH _ _ _ _ _ _ _ (Act.put _ (some 42) _) _
              simp only [Act.put, List.setIfInBounds_toArray, List.set_cons_zero, List.set_cons_succ]
              refine wpAnyH_ready (rs := [7]) (by kernel_rfl) (by simp) (AllReadyH.cons rfl (fun K hK => ?zo111040_0) AllReadyH.nil)
              case zo111040_0 =>
                go_simp
                refine hK.out _ _ (⟨jr_cells (LX7.out.below (HU2.out.alloc hzu2 _) LX7.out.lt), jr_cells (KR7.out.below (HU2.out.alloc hzu2 _) KR7.out.lt)⟩) (fun hHeld => ?_)
                clear hK K
                (try simp only [Act.put, List.setIfInBounds_toArray, List.set_cons_zero, List.set_cons_succ])
                obtain ⟨U3, EU3⟩ : ∃ U, Hid (U2.alloc (.cells #[.slice none 0 0, .int .i64 0] 29) = U) := ⟨_, rfl⟩
                have hb3 : Below U2.heap.size U2 U3 := by rw [← EU3.out]; exact (Below.refl _ _).alloc (Nat.le_refl _) _
                have HU3 : Hid (Below w7.heap.size w7 U3) := HU2.out.trans (hb3.mono hzu2)
                have hzu3 : w7.heap.size ≤ U3.heap.size := HU3.out.size
                have RW3 := Lib.hid (RW2.out.below hb3)
                have KT3 : Hid (Blk U3 U2.heap.size 29 #[.slice none 0 0, .int .i64 0]) := by rw [← EU3.out]; exact Blk.new U2 _ _
                clear hb3
                rw [EU3.out] at hHeld ⊢
                refine wpAnyH_ready (rs := [8]) (by kernel_rfl) (by simp) (AllReadyH.cons rfl (fun K hK => ?zo111041_0) AllReadyH.nil)
                case zo111041_0 =>
                  go_simp
                  obtain ⟨n0, n1⟩ := jr_cells KT3.out
                  have nf := blk_frozen KT3.out
                  obtain ⟨U4, EU4⟩ : ∃ Q0, Hid ((U3.setCell ⟨U2.heap.size, 0, none⟩ (.slice RA mb rc)).setCell ⟨U2.heap.size, 1, none⟩ (.int .i64 os) = Q0) := ⟨_, rfl⟩
                  have KT4 : Hid (Blk U4 U2.heap.size 29 #[.slice RA mb rc, .int .i64 os]) := by rw [← EU4.out]; exact blk_two KT3.out _ _
                  have RW4 : Hid (OwnRow RK U4 w7.heap.size RA rc rsx) := by rw [← EU4.out]; exact rown_two RW3.out KT3.out _ _
                  have hgg4 : w7.heap.size ≤ U2.heap.size := by have h := hzu2; exact h
                  have HU4 : Hid (Below w7.heap.size w7 U4) := by rw [← EU4.out]; exact below_two HU3.out hgg4 _ _
                  have hzu4 : w7.heap.size ≤ U4.heap.size := HU4.out.size
                  go_simp
                  rw [EU4.out]
                  refine hK.out _ _ (⟨jr_cells (LX7.out.below HU4.out LX7.out.lt), jr_cells (KR7.out.below HU4.out KR7.out.lt)⟩) (fun hHeld => ?_)
                  clear hK K
                  (try simp only [Act.put])
                  clear n0 n1 nf
                  refine wpAnyH_take (i := 9) (v := ?zv111042) rfl (by kernel_rfl) (by kernel_rfl) (by kernel_rfl) (fun _ _ _ h => h) (Or.inl ⟨by kernel_rfl, ?zy111042⟩) (by assumption) ?zr111042
                  case zy111042 => (intro w hSw; (try dsimp only at hSw); go_simp; try with_reducible rfl)
                  change wpAnyH _ _ _ _ _ _ _ (Act.put _ (some 10) _) _
                  simp only [Act.put, List.setIfInBounds_toArray, List.set_cons_zero, List.set_cons_succ]
                  refine wpAnyH_done (by kernel_rfl) ?_ _
                  (try go_wp2_with fail)
                  go_meet
                  exact ⟨_, RA, rc, rfl, rfl, hgg4, KT4, RW4, HU4⟩
            case zo111036_1 =>
              go_simp
              refine hK.out _ _ (⟨jr_cells (LX7.out.below (HU1.out.alloc hzu1 _) LX7.out.lt), jr_cells (KR7.out.below (HU1.out.alloc hzu1 _) KR7.out.lt)⟩) (fun hHeld => ?_)
              clear hK K
              (try simp only [Act.put, List.setIfInBounds_toArray, List.set_cons_zero, List.set_cons_succ])
              obtain ⟨U2, EU2⟩ : ∃ U, Hid (U1.alloc (.cells #[.slice none 0 0, .int .i64 0] 29) = U) := ⟨_, rfl⟩
              have hb2 : Below U1.heap.size U1 U2 := by rw [← EU2.out]; exact (Below.refl _ _).alloc (Nat.le_refl _) _
              have HU2 : Hid (Below w7.heap.size w7 U2) := HU1.out.trans (hb2.mono hzu1)
              have hzu2 : w7.heap.size ≤ U2.heap.size := HU2.out.size
              have KT2 : Hid (Blk U2 U1.heap.size 29 #[.slice none 0 0, .int .i64 0]) := by rw [← EU2.out]; exact Blk.new U1 _ _
              clear hb2
              rw [EU2.out] at hHeld ⊢
              refine wpAnyH_ready (rs := [3]) (by kernel_rfl) (by simp) (AllReadyH.cons rfl (fun K hK => ?zo111043_0) AllReadyH.nil)
              case zo111043_0 =>
                go_simp
                go_at_call 16
                refine (IMPL.out _ _ U2 (own_jat (X7.out.below HU2.out) HF.out)).mono ?_
                rintro e U3 ⟨RA, rc, rfl, ho3, hb3⟩
                have HU3 : Hid (Below w7.heap.size w7 U3) := HU2.out.trans (hb3.mono hzu2)
                have hzu3 : w7.heap.size ≤ U3.heap.size := HU3.out.size
                have KT3 := Lib.hid (KT2.out.below hb3 KT2.out.lt)
                have RW3 := Lib.hid (ho3.base_le hzu2)
                clear ho3 hb3
                refine hK.out _ _ (⟨jr_cells (LX7.out.below HU3.out LX7.out.lt), jr_cells (KR7.out.below HU3.out KR7.out.lt)⟩) (fun hHeld => ?_)
                clear hK K
                (try simp only [Act.put, List.setIfInBounds_toArray, List.set_cons_zero, List.set_cons_succ])
                refine wpAnyH_take (i := 4) (v := ?zv111044) rfl (by kernel_rfl) (by kernel_rfl) (by kernel_rfl) (fun _ _ _ h => h) (Or.inl ⟨by kernel_rfl, ?zy111044⟩) (by assumption) ?zr111044
                case zy111044 => (intro w hSw; (try dsimp only at hSw); go_simp; try with_reducible rfl)
                change wpAnyH _ _ _ _ _ _ _ (Act.put _ (some 36) _) _
                simp only [Act.put, List.setIfInBounds_toArray, List.set_cons_zero, List.set_cons_succ]
                refine wpAnyH_take (i := 5) (v := ?zv111045) rfl (by kernel_rfl) (by kernel_rfl) (by kernel_rfl) (fun _ _ _ h => h) (Or.inl ⟨by kernel_rfl, ?zy111045⟩) (by assumption) ?zr111045
                case zy111045 => (intro w hSw; (try dsimp only at hSw); go_simp; try with_reducible rfl)
                change wpAnyH _ _ _ _ _ _ _ (Act.put _ (some 41) _) _
                simp only [Act.put, List.setIfInBounds_toArray, List.set_cons_zero, List.set_cons_succ]
                refine wpAnyH_take (i := 6) (v := ?zv111046) rfl (by kernel_rfl) (by kernel_rfl) (by kernel_rfl) (fun _ _ _ h => h) (Or.inl ⟨by kernel_rfl, ?zy111046⟩) (by assumption) ?zr111046
                case zy111046 => (intro w hSw; (try dsimp only at hSw); go_simp; try with_reducible rfl)
                change wpAnyH _ _ _ _ _ _ _ (Act.put _ (some 42) _) _
                simp only [Act.put, List.setIfInBounds_toArray, List.set_cons_zero, List.set_cons_succ]
                refine wpAnyH_ready (rs := [8]) (by kernel_rfl) (by simp) (AllReadyH.cons rfl (fun K hK => ?zo111047_0) AllReadyH.nil)
                case zo111047_0 =>
                  go_simp
                  obtain ⟨n0, n1⟩ := jr_cells KT3.out
                  have nf := blk_frozen KT3.out
                  obtain ⟨U4, EU4⟩ : ∃ Q0, Hid ((U3.setCell ⟨U1.heap.size, 0, none⟩ (.slice RA mb rc)).setCell ⟨U1.heap.size, 1, none⟩ (.int .i64 os) = Q0) := ⟨_, rfl⟩
                  have KT4 : Hid (Blk U4 U1.heap.size 29 #[.slice RA mb rc, .int .i64 os]) := by rw [← EU4.out]; exact blk_two KT3.out _ _
                  have RW4 : Hid (OwnRow RK U4 w7.heap.size RA rc rsx) := by rw [← EU4.out]; exact rown_two RW3.out KT3.out _ _
                  have hgg4 : w7.heap.size ≤ U1.heap.size := by have h := hzu1; exact h
                  have HU4 : Hid (Below w7.heap.size w7 U4) := by rw [← EU4.out]; exact below_two HU3.out hgg4 _ _
                  have hzu4 : w7.heap.size ≤ U4.heap.size := HU4.out.size
                  go_simp
                  rw [EU4.out]
                  refine hK.out _ _ (⟨jr_cells (LX7.out.below HU4.out LX7.out.lt), jr_cells (KR7.out.below HU4.out KR7.out.lt)⟩) (fun hHeld => ?_)
                  clear hK K
                  (try simp only [Act.put])
                  clear n0 n1 nf
                  refine wpAnyH_take (i := 9) (v := ?zv111048) rfl (by kernel_rfl) (by kernel_rfl) (by kernel_rfl) (fun _ _ _ h => h) (Or.inl ⟨by kernel_rfl, ?zy111048⟩) (by assumption) ?zr111048
                  case zy111048 => (intro w hSw; (try dsimp only at hSw); go_simp; try with_reducible rfl)
                  change wpAnyH _ _ _ _ _ _ _ (Act.put _ (some 10) _) _
                  simp only [Act.put, List.setIfInBounds_toArray, List.set_cons_zero, List.set_cons_succ]
                  refine wpAnyH_done (by kernel_rfl) ?_ _
                  (try go_wp2_with fail)
                  go_meet
                  exact ⟨_, RA, rc, rfl, rfl, hgg4, KT4, RW4, HU4⟩
          case zo111035_1 =>
            go_simp
            refine hK.out _ _ (⟨jr_cells (LX7.out.below (HU0.out.alloc hzu0 _) LX7.out.lt), jr_cells (KR7.out.below (HU0.out.alloc hzu0 _) KR7.out.lt)⟩) (fun hHeld => ?_)
            clear hK K
            (try simp only [Act.put, List.setIfInBounds_toArray, List.set_cons_zero, List.set_cons_succ])
            obtain ⟨U1, EU1⟩ : ∃ U, Hid (U0.alloc (.cells #[.slice none 0 0, .int .i64 0] 29) = U) := ⟨_, rfl⟩
            have hb1 : Below U0.heap.size U0 U1 := by rw [← EU1.out]; exact (Below.refl _ _).alloc (Nat.le_refl _) _
            have HU1 : Hid (Below w7.heap.size w7 U1) := HU0.out.trans (hb1.mono hzu0)
            have hzu1 : w7.heap.size ≤ U1.heap.size := HU1.out.size
            have KT1 : Hid (Blk U1 U0.heap.size 29 #[.slice none 0 0, .int .i64 0]) := by rw [← EU1.out]; exact Blk.new U0 _ _
            clear hb1
            rw [EU1.out] at hHeld ⊢
            refine wpAnyH_ready (rs := [2]) (by kernel_rfl) (by simp) (AllReadyH.cons rfl (fun K hK => ?zo111049_0) AllReadyH.nil)
            case zo111049_0 =>
              go_simp
              go_at_call 15
              refine (toR_any ⟨ri, rt⟩ U1).mono ?_
              rintro e U2 ⟨rfl, hb2⟩
              have HU2 : Hid (Below w7.heap.size w7 U2) := HU1.out.trans (hb2.mono hzu1)
              have hzu2 : w7.heap.size ≤ U2.heap.size := HU2.out.size
              have KT2 := Lib.hid (KT1.out.below hb2 KT1.out.lt)
              clear hb2
              refine hK.out _ _ (⟨jr_cells (LX7.out.below HU2.out LX7.out.lt), jr_cells (KR7.out.below HU2.out KR7.out.lt)⟩) (fun hHeld => ?_)
              clear hK K
              (try simp only [Act.put, List.setIfInBounds_toArray, List.set_cons_zero, List.set_cons_succ])
              refine wpAnyH_ready (rs := [3]) (by kernel_rfl) (by simp) (AllReadyH.cons rfl (fun K hK => ?zo111050_0) AllReadyH.nil)
              case zo111050_0 =>
                go_simp
                go_at_call 16
                refine (IMPL.out _ _ U2 (own_jat (X7.out.below HU2.out) HF.out)).mono ?_
                rintro e U3 ⟨RA, rc, rfl, ho3, hb3⟩
                have HU3 : Hid (Below w7.heap.size w7 U3) := HU2.out.trans (hb3.mono hzu2)
                have hzu3 : w7.heap.size ≤ U3.heap.size := HU3.out.size
                have KT3 := Lib.hid (KT2.out.below hb3 KT2.out.lt)
                have RW3 := Lib.hid (ho3.base_le hzu2)
                clear ho3 hb3
                refine hK.out _ _ (⟨jr_cells (LX7.out.below HU3.out LX7.out.lt), jr_cells (KR7.out.below HU3.out KR7.out.lt)⟩) (fun hHeld => ?_)
                clear hK K
                (try simp only [Act.put, List.setIfInBounds_toArray, List.set_cons_zero, List.set_cons_succ])
                refine wpAnyH_take (i := 4) (v := ?zv111051) rfl (by kernel_rfl) (by kernel_rfl) (by kernel_rfl) (fun _ _ _ h => h) (Or.inl ⟨by kernel_rfl, ?zy111051⟩) (by assumption) ?zr111051
                case zy111051 => (intro w hSw; (try dsimp only at hSw); go_simp; try with_reducible rfl)
                change wpAnyH _ _ _ _ _ _ _ (Act.put _ (some 36) _) _
                simp only [Act.put, List.setIfInBounds_toArray, List.set_cons_zero, List.set_cons_succ]
                refine wpAnyH_take (i := 5) (v := ?zv111052) rfl (by kernel_rfl) (by kernel_rfl) (by kernel_rfl) (fun _ _ _ h => h) (Or.inl ⟨by kernel_rfl, ?zy111052⟩) (by assumption) ?zr111052
                case zy111052 => (intro w hSw; (try dsimp only at hSw); go_simp; try with_reducible rfl)
                change wpAnyH _ _ _ _ _ _ _ (Act.put _ (some 41) _) _
                simp only [Act.put, List.setIfInBounds_toArray, List.set_cons_zero, List.set_cons_succ]
                refine wpAnyH_take (i := 6) (v := ?zv111053) rfl (by kernel_rfl) (by kernel_rfl) (by kernel_rfl) (fun _ _ _ h => h) (Or.inl ⟨by kernel_rfl, ?zy111053⟩) (by assumption) ?zr111053
                case zy111053 => (intro w hSw; (try dsimp only at hSw); go_simp; try with_reducible rfl)
                change wpAnyH _ _ _ _ _ _ _ (Act.put _ (some 42) _) _
                simp only [Act.put, List.setIfInBounds_toArray, List.set_cons_zero, List.set_cons_succ]
                refine wpAnyH_ready (rs := [8]) (by kernel_rfl) (by simp) (AllReadyH.cons rfl (fun K hK => ?zo111054_0) AllReadyH.nil)
                case zo111054_0 =>
                  go_simp
                  obtain ⟨n0, n1⟩ := jr_cells KT3.out
                  have nf := blk_frozen KT3.out
                  obtain ⟨U4, EU4⟩ : ∃ Q0, Hid ((U3.setCell ⟨U0.heap.size, 0, none⟩ (.slice RA mb rc)).setCell ⟨U0.heap.size, 1, none⟩ (.int .i64 os) = Q0) := ⟨_, rfl⟩
                  have KT4 : Hid (Blk U4 U0.heap.size 29 #[.slice RA mb rc, .int .i64 os]) := by rw [← EU4.out]; exact blk_two KT3.out _ _
                  have RW4 : Hid (OwnRow RK U4 w7.heap.size RA rc rsx) := by rw [← EU4.out]; exact rown_two RW3.out KT3.out _ _
                  have hgg4 : w7.heap.size ≤ U0.heap.size := by have h := hzu0; exact h
                  have HU4 : Hid (Below w7.heap.size w7 U4) := by rw [← EU4.out]; exact below_two HU3.out hgg4 _ _
                  have hzu4 : w7.heap.size ≤ U4.heap.size := HU4.out.size
                  go_simp
                  rw [EU4.out]
                  refine hK.out _ _ (⟨jr_cells (LX7.out.below HU4.out LX7.out.lt), jr_cells (KR7.out.below HU4.out KR7.out.lt)⟩) (fun hHeld => ?_)
                  clear hK K
                  (try simp only [Act.put])
                  clear n0 n1 nf
                  refine wpAnyH_take (i := 9) (v := ?zv111055) rfl (by kernel_rfl) (by kernel_rfl) (by kernel_rfl) (fun _ _ _ h => h) (Or.inl ⟨by kernel_rfl, ?zy111055⟩) (by assumption) ?zr111055
                  case zy111055 => (intro w hSw; (try dsimp only at hSw); go_simp; try with_reducible rfl)
                  change wpAnyH _ _ _ _ _ _ _ (Act.put _ (some 10) _) _
                  simp only [Act.put, List.setIfInBounds_toArray, List.set_cons_zero, List.set_cons_succ]
                  refine wpAnyH_done (by kernel_rfl) ?_ _
                  (try go_wp2_with fail)
                  go_meet
                  exact ⟨_, RA, rc, rfl, rfl, hgg4, KT4, RW4, HU4⟩
        case rest =>
          obtain ⟨w8, hwn⟩ : ∃ y, y = wc := ⟨_, rfl⟩
          subst hwn
          obtain ⟨gg, A7, c7, rfl, rfl, hr8, LG8, RG8, hbc8⟩ := hcut
          have hb8 := hbc8.out
          have hlr8 : gg < w8.heap.size := LG8.out.lt
          have hne8 : ∀ g, A7 = some ⟨g, 0, none⟩ → g ≠ gg := fun g hA => own_ne_blk RG8.out LG8.out (by decide) g hA
          have hla8 : Hid (∀ g, A7 = some ⟨g, 0, none⟩ → w7.heap.size ≤ g ∧ g < w8.heap.size) := RG8.out.lies
          have HI8 := Lib.hid (HI7.out.belowS hb8)
          have KB8 := Lib.hid (KB7.out.below hb8 KB7.out.lt)
          have KR8 := Lib.hid (KR7.out.below hb8 KR7.out.lt)
          have RW8 := Lib.hid (RW7.out.below hb8)
          have LW8 := Lib.hid (LW7.out.below hb8 LW7.out.lt)
          have X8 := Lib.hid (X7.out.below hb8)
          have LX8 := Lib.hid (LX7.out.below hb8 LX7.out.lt)
          have HB8 : Hid (Below w.heap.size w w8) := HB7.out.trans (hb8.mono HB7.out.size)
          have hz8 : w7.heap.size ≤ w8.heap.size := hb8.size
          clear hb8
          clear hbc8
          have hve : (ov != ov) = false := by simp
          obtain ⟨lg0, lg1⟩ := jr_cells LG8.out
          obtain ⟨lw0, lw1⟩ := jr_cells LW8.out
          go_wp2_with fail
          refine (eqJ_any A7 c7 A3 c3 os rsx w8 RG8.out.at_ RW8.out.at_ HMM.out HM.out).mono ?_
          rintro e w9 ⟨rfl, hb9⟩
          have HI9 := Lib.hid (HI8.out.belowS hb9)
          have KB9 := Lib.hid (KB8.out.below hb9 KB8.out.lt)
          have KR9 := Lib.hid (KR8.out.below hb9 KR8.out.lt)
          have RW9 := Lib.hid (RW8.out.below hb9)
          have LW9 := Lib.hid (LW8.out.below hb9 LW8.out.lt)
          have X9 := Lib.hid (X8.out.below hb9)
          have LX9 := Lib.hid (LX8.out.below hb9 LX8.out.lt)
          have RG9 := Lib.hid (RG8.out.below hb9)
          have LG9 := Lib.hid (LG8.out.below hb9 LG8.out.lt)
          have HB9 : Hid (Below w.heap.size w w9) := HB8.out.trans (hb9.mono HB8.out.size)
          have hz9 : w8.heap.size ≤ w9.heap.size := hb9.size
          clear hb9
          clear lg0 lg1 lw0 lw1
          obtain ⟨lx0, lx1⟩ := jr_cells LX9.out
          obtain ⟨kb0, kb1⟩ := jr_cells KB9.out
          go_upto_region 13 with fail
          (try go_wp2_with fail)
          clear lx0 lx1 kb0 kb1
          refine wp_region_held_drew (S := (fun w' => (w'.cell? ⟨w6.heap.size, 0, none⟩ = some (.slice (some ⟨g6, 0, none⟩) n n) ∧ w'.cell? ⟨w6.heap.size, 1, none⟩ = some (.int .i64 s)) ∧ (w'.cell? ⟨w.heap.size, 0, none⟩ = some (.slice A n cap) ∧ w'.cell? ⟨w.heap.size, 1, none⟩ = some (.int .i64 s)))) (by kernel_rfl) (⟨jr_cells LX9.out, jr_cells KB9.out⟩) (fun hHeld => ?_)
          refine wpAnyH_take (i := 0) (v := ?zv101001) rfl (by kernel_rfl) (by kernel_rfl) (by kernel_rfl) (fun _ _ _ h => h) (Or.inl ⟨by kernel_rfl, ?zy101001⟩) (by assumption) ?zr101001
          case zy101001 => (intro w hSw; (try dsimp only at hSw); go_simp; try with_reducible rfl)
          change wpAnyH _ _ _ _ _ _ _ (Act.put _ (some 52) _) _
          simp only [Act.put, List.setIfInBounds_toArray, List.set_cons_zero, List.set_cons_succ]
          refine wpAnyH_take (i := 1) (v := ?zv101002) rfl (by kernel_rfl) (by kernel_rfl) (by kernel_rfl) (fun _ _ _ h => h) (Or.inl ⟨by kernel_rfl, ?zy101002⟩) (by assumption) ?zr101002
          case zy101002 => (intro w hSw; (try dsimp only at hSw); go_simp; try with_reducible rfl)
          change wpAnyH _ _ _ _ _ _ _ (Act.put _ (some 53) _) _
          simp only [Act.put, List.setIfInBounds_toArray, List.set_cons_zero, List.set_cons_succ]
          refine wpAnyH_ready (rs := [2]) (by kernel_rfl) (by simp) (AllReadyH.cons rfl (fun K hK => ?_) AllReadyH.nil)
          go_simp
          go_at_call 10
          refine (toJ_any A cap s rs _ (HI9.out.drewN 1) HL.out HN.out).mono ?_
          rintro e w10 ⟨g10, rfl, ho10, hbd⟩
          have hb10 : Below w9.heap.size w9 w10 := below_drew_l hbd
          have T10 : Hid (OwnRow RK w10 w9.heap.size (some ⟨g10, 0, none⟩) n rs) := ho10
          clear hbd ho10
          have HI10 := Lib.hid (HI9.out.belowS hb10)
          have KB10 := Lib.hid (KB9.out.below hb10 KB9.out.lt)
          have KR10 := Lib.hid (KR9.out.below hb10 KR9.out.lt)
          have RW10 := Lib.hid (RW9.out.below hb10)
          have LW10 := Lib.hid (LW9.out.below hb10 LW9.out.lt)
          have X10 := Lib.hid (X9.out.below hb10)
          have LX10 := Lib.hid (LX9.out.below hb10 LX9.out.lt)
          have RG10 := Lib.hid (RG9.out.below hb10)
          have LG10 := Lib.hid (LG9.out.below hb10 LG9.out.lt)
          have HB10 : Hid (Below w.heap.size w w10) := HB9.out.trans (hb10.mono HB9.out.size)
          have hz10 : w9.heap.size ≤ w10.heap.size := hb10.size
          clear hb10
          refine hK.out _ _ (⟨jr_cells LX10.out, jr_cells KB10.out⟩) (fun hHeld => ?_)
          clear hK K
          (try simp only [Act.put, List.setIfInBounds_toArray, List.set_cons_zero, List.set_cons_succ])
          refine wpAnyH_ready (rs := [3]) (by kernel_rfl) (by simp) (AllReadyH.cons rfl (fun K hK => ?_) AllReadyH.nil)
          go_simp
          go_at_call 12
          refine (eqJ_any _ n _ n s rs w10 X10.out.at_ T10.out.at_ HLM.out HN.out).mono ?_
          rintro e w11 ⟨rfl, hb11⟩
          have HI11 := Lib.hid (HI10.out.belowS hb11)
          have KB11 := Lib.hid (KB10.out.below hb11 KB10.out.lt)
          have KR11 := Lib.hid (KR10.out.below hb11 KR10.out.lt)
          have RW11 := Lib.hid (RW10.out.below hb11)
          have LW11 := Lib.hid (LW10.out.below hb11 LW10.out.lt)
          have X11 := Lib.hid (X10.out.below hb11)
          have LX11 := Lib.hid (LX10.out.below hb11 LX10.out.lt)
          have RG11 := Lib.hid (RG10.out.below hb11)
          have LG11 := Lib.hid (LG10.out.below hb11 LG10.out.lt)
          have T11 := Lib.hid (T10.out.below hb11)
          have HB11 : Hid (Below w.heap.size w w11) := HB10.out.trans (hb11.mono HB10.out.size)
          have hz11 : w10.heap.size ≤ w11.heap.size := hb11.size
          clear hb11
          refine hK.out _ _ (⟨jr_cells LX11.out, jr_cells KB11.out⟩) (fun hHeld => ?_)
          clear hK K
          (try simp only [Act.put, List.setIfInBounds_toArray, List.set_cons_zero, List.set_cons_succ])
          refine wpAnyH_take (i := 4) (v := ?zv101003) rfl (by kernel_rfl) (by kernel_rfl) (by kernel_rfl) (fun _ _ _ h => h) (Or.inl ⟨by kernel_rfl, ?zy101003⟩) (by assumption) ?zr101003
          case zy101003 => (intro w hSw; (try dsimp only at hSw); go_simp; try with_reducible rfl)
          change wpAnyH _ _ _ _ _ _ _ (Act.put _ (some 56) _) _
          simp only [Act.put, List.setIfInBounds_toArray, List.set_cons_zero, List.set_cons_succ]
          refine wpAnyH_done (by kernel_rfl) ?_ _
          obtain ⟨lx0, lx1⟩ := jr_cells LX11.out
          go_wp2_with fail
          refine (markJ_any _ _ _ s rs w11 X11.out HL.out HN.out).mono ?_
          rintro e w12 hm12
          obtain ⟨hb12, hk12⟩ := marked2_other X11.out hm12 (by omega)
          obtain ⟨rfl, -, -, -⟩ := hm12
          clear lx0 lx1
          have RW12 := Lib.hid (RW11.out.older (fun g hA => by have := (hla4.out g hA).2; omega) hb12)
          have RG12 := Lib.hid (RG11.out.block fun g hA => hk12 g (RG11.out.lies g hA).2 fun g' hA' => by injection hA' with hA'; injection hA' with hA' _ _; have := (hla8.out g hA).1; omega)
          have KB12 : Hid (Blk w12 w.heap.size 24 #[.slice A n cap, .int .i64 s]) := (hk12 _ KB11.out.lt (fun g' hA' => by injection hA' with hA'; injection hA' with hA' _ _; omega)).trans KB11.out
          have KR12 : Hid (Blk w12 gq 34 #[.int .i64 ri, .string rt]) := (hk12 _ KR11.out.lt (fun g' hA' => by injection hA' with hA'; injection hA' with hA' _ _; omega)).trans KR11.out
          have LW12 : Hid (Blk w12 gw 29 #[.slice A3 mb c3, .int .i64 os]) := (hk12 _ LW11.out.lt (fun g' hA' => by injection hA' with hA'; injection hA' with hA' _ _; omega)).trans LW11.out
          have LG12 : Hid (Blk w12 gg 29 #[.slice A7 mb c7, .int .i64 os]) := (hk12 _ LG11.out.lt (fun g' hA' => by injection hA' with hA'; injection hA' with hA' _ _; omega)).trans LG11.out
          have HB12 : Hid (Below w.heap.size w w12) := HB11.out.trans (hb12.mono (by omega))
          have HI12 := Lib.hid (HI.out.belowS HB12.out)
          have hz12 : w11.heap.size ≤ w12.heap.size := hb12.size
          clear hb12 hk12
          have hk1 : ¬ (((1 + 2 * n : Nat) : Int) < 0) := by omega
          obtain ⟨lg0, lg1⟩ := jr_cells LG12.out
          obtain ⟨lw0, lw1⟩ := jr_cells LW12.out
          go_wp2_with fail
          refine (eqJ_any A7 c7 A3 c3 os rsx w12 RG12.out.at_ RW12.out.at_ HMM.out HM.out).mono ?_
          rintro e w13 ⟨rfl, hb13⟩
          have HI13 := Lib.hid (HI12.out.belowS hb13)
          have KB13 := Lib.hid (KB12.out.below hb13 KB12.out.lt)
          have KR13 := Lib.hid (KR12.out.below hb13 KR12.out.lt)
          have RW13 := Lib.hid (RW12.out.below hb13)
          have LW13 := Lib.hid (LW12.out.below hb13 LW12.out.lt)
          have RG13 := Lib.hid (RG12.out.below hb13)
          have LG13 := Lib.hid (LG12.out.below hb13 LG12.out.lt)
          have HB13 : Hid (Below w.heap.size w w13) := HB12.out.trans (hb13.mono HB12.out.size)
          have hz13 : w12.heap.size ≤ w13.heap.size := hb13.size
          clear hb13
          clear lg0 lg1 lw0 lw1
          obtain ⟨lg0, lg1⟩ := jr_cells LG13.out
          go_wp2_with fail
          refine (markJ_any _ A7 c7 os rsx w13 RG13.out HMS.out HM.out).mono ?_
          rintro e w14 hm14
          obtain ⟨hb14, hk14⟩ := marked2_other RG13.out hm14 (by omega)
          obtain ⟨rfl, ho14, -, -⟩ := hm14
          clear lg0 lg1
          have RM14 := Lib.hid ho14
          clear ho14
          have RW14 := Lib.hid (RW13.out.older (fun g hA => by have := (hla4.out g hA).2; omega) hb14)
          have KB14 : Hid (Blk w14 w.heap.size 24 #[.slice A n cap, .int .i64 s]) := (hb14.block _ (by omega)).trans KB13.out
          have KR14 : Hid (Blk w14 gq 34 #[.int .i64 ri, .string rt]) := (hb14.block _ (by omega)).trans KR13.out
          have LW14 : Hid (Blk w14 gw 29 #[.slice A3 mb c3, .int .i64 os]) := (hb14.block _ (by omega)).trans LW13.out
          have LG14 : Hid (Blk w14 gg 29 #[.slice A7 mb c7, .int .i64 os]) := (hk14 _ LG13.out.lt (fun g' hA' e => hne8 g' hA' e.symm)).trans LG13.out
          have HB14 : Hid (Below w.heap.size w w14) := HB13.out.trans (hb14.mono (by omega))
          have HI14 := Lib.hid (HI.out.belowS HB14.out)
          have hz14 : w13.heap.size ≤ w14.heap.size := hb14.size
          clear hb14 hk14
          have hmb : mb ≤ 1048576 := by rw [← HM.out]; exact HMS.out
          have hk2 : ¬ (((1 + 2 * mb : Nat) : Int) < 0) := by omega
          have hk3 : ((((1 + 2 * mb : Nat) : Int)) != ((1 + 2 * mb : Nat) : Int)) = false := by simp
          obtain ⟨lg0, lg1⟩ := jr_cells LG14.out
          go_wp2_with fail
          refine (heldJ_any A7 c7 mb os w14 RM14.out.at_ hmb).mono ?_
          rintro e w15 ⟨rfl, hb15⟩
          have HI15 := Lib.hid (HI14.out.belowS hb15)
          have KB15 := Lib.hid (KB14.out.below hb15 KB14.out.lt)
          have KR15 := Lib.hid (KR14.out.below hb15 KR14.out.lt)
          have RW15 := Lib.hid (RW14.out.below hb15)
          have LW15 := Lib.hid (LW14.out.below hb15 LW14.out.lt)
          have LG15 := Lib.hid (LG14.out.below hb15 LG14.out.lt)
          have RM15 := Lib.hid (RM14.out.below hb15)
          have HB15 : Hid (Below w.heap.size w w15) := HB14.out.trans (hb15.mono HB14.out.size)
          have hz15 : w14.heap.size ≤ w15.heap.size := hb15.size
          clear hb15
          clear lg0 lg1
          go_upto_region 27 with fail
          go_cut [14, 15] (fun sa sb wx => ∃ (gr : Nat) (Ar : Option Addr) (cr : Nat), sa = .pointer (some ⟨gr, 0, none⟩) ∧ sb = .bool ov ∧ w15.heap.size ≤ gr ∧ Hid (Blk wx gr 29 #[.slice Ar mb cr, .int .i64 os]) ∧ Hid (OwnRow RK wx w15.heap.size Ar cr rsx) ∧ Hid (Below w15.heap.size w15 wx))
          case first =>
            (try go_wp2_with fail)
            refine wp_region_held_drew (S := (fun w' => (w'.cell? ⟨w.heap.size, 0, none⟩ = some (.slice A n cap) ∧ w'.cell? ⟨w.heap.size, 1, none⟩ = some (.int .i64 s)) ∧ (w'.cell? ⟨gq, 0, none⟩ = some (.int .i64 ri) ∧ w'.cell? ⟨gq, 1, none⟩ = some (.string rt)))) (by kernel_rfl) (⟨jr_cells KB15.out, jr_cells KR15.out⟩) (fun hHeld => ?_)
            obtain ⟨U0, HUE⟩ : ∃ U, Hid (w15.drew = U) := ⟨_, rfl⟩
            have HU0 : Hid (Below w15.heap.size w15 U0) := by rw [← HUE.out]; exact below_drew (Below.refl _ _)
            have hzu0 : w15.heap.size ≤ U0.heap.size := HU0.out.size
            rw [HUE.out] at hHeld ⊢
            refine wpAnyH_take (i := 0) (v := ?zv111056) rfl (by kernel_rfl) (by kernel_rfl) (by kernel_rfl) (fun _ _ _ h => h) (Or.inl ⟨by kernel_rfl, ?zy111056⟩) (by assumption) ?zr111056
            case zy111056 => (intro w hSw; (try dsimp only at hSw); go_simp; try with_reducible rfl)
            change wpAnyH _ _ _ _ _ _ _ (Act.put _ (some 85) _) _
            simp only [Act.put, List.setIfInBounds_toArray, List.set_cons_zero, List.set_cons_succ]
            refine wpAnyH_take (i := 2) (v := ?zv111057) rfl (by kernel_rfl) (by kernel_rfl) (by kernel_rfl) (fun _ _ _ h => h) (Or.inl ⟨by kernel_rfl, ?zy111057⟩) (by assumption) ?zr111057
            case zy111057 => (intro w hSw; (try dsimp only at hSw); go_simp; try with_reducible rfl)
            change wpAnyH _ _ _ _ _ _ _ (Act.put _ (some 87) _) _
            simp only [Act.put, List.setIfInBounds_toArray, List.set_cons_zero, List.set_cons_succ]
            refine wpAnyH_ready (rs := [1, 8]) (by kernel_rfl) (by simp) (AllReadyH.cons rfl (fun K hK => ?zo111058_0) (AllReadyH.cons rfl (fun K hK => ?zo111058_1) AllReadyH.nil))
            case zo111058_0 =>
              go_simp
              go_at_call 10
              refine (toJ_any A cap s rs U0 (HI15.out.belowS HU0.out) HL.out HN.out).mono ?_
              rintro e U1 ⟨gt, rfl, ho1, hb1⟩
              have HU1 : Hid (Below w15.heap.size w15 U1) := HU0.out.trans (hb1.mono hzu0)
              have hzu1 : w15.heap.size ≤ U1.heap.size := HU1.out.size
              have TJ1 := Lib.hid ho1
              clear ho1 hb1
              refine hK.out _ _ (⟨jr_cells (KB15.out.below HU1.out KB15.out.lt), jr_cells (KR15.out.below HU1.out KR15.out.lt)⟩) (fun hHeld => ?_)
              clear hK K
              (try simp only [Act.put, List.setIfInBounds_toArray, List.set_cons_zero, List.set_cons_succ])
              refine wpAnyH_ready (rs := [3, 8]) (by kernel_rfl) (by simp) (AllReadyH.cons rfl (fun K hK => ?zo111059_0) (AllReadyH.cons rfl (fun K hK => ?zo111059_1) AllReadyH.nil))
              case zo111059_0 =>
                go_simp
                go_at_call 15
                refine (toR_any ⟨ri, rt⟩ U1).mono ?_
                rintro e U2 ⟨rfl, hb2⟩
                have HU2 : Hid (Below w15.heap.size w15 U2) := HU1.out.trans (hb2.mono hzu1)
                have hzu2 : w15.heap.size ≤ U2.heap.size := HU2.out.size
                have TJ2 := Lib.hid (TJ1.out.below hb2)
                clear hb2
                refine hK.out _ _ (⟨jr_cells (KB15.out.below HU2.out KB15.out.lt), jr_cells (KR15.out.below HU2.out KR15.out.lt)⟩) (fun hHeld => ?_)
                clear hK K
                (try simp only [Act.put, List.setIfInBounds_toArray, List.set_cons_zero, List.set_cons_succ])
                refine wpAnyH_ready (rs := [4, 8]) (by kernel_rfl) (by simp) (AllReadyH.cons rfl (fun K hK => ?zo111060_0) (AllReadyH.cons rfl (fun K hK => ?zo111060_1) AllReadyH.nil))
                case zo111060_0 =>
                  go_simp
                  go_at_call 16
                  refine (IMPL.out _ _ U2 (own_jat TJ2.out HF.out)).mono ?_
                  rintro e U3 ⟨RA, rc, rfl, ho3, hb3⟩
                  have HU3 : Hid (Below w15.heap.size w15 U3) := HU2.out.trans (hb3.mono hzu2)
                  have hzu3 : w15.heap.size ≤ U3.heap.size := HU3.out.size
                  have RW3 := Lib.hid (ho3.base_le hzu2)
                  clear ho3 hb3
                  refine hK.out _ _ (⟨jr_cells (KB15.out.below HU3.out KB15.out.lt), jr_cells (KR15.out.below HU3.out KR15.out.lt)⟩) (fun hHeld => ?_)
                  clear hK K
                  (try simp only [Act.put, List.setIfInBounds_toArray, List.set_cons_zero, List.set_cons_succ])
                  refine wpAnyH_take (i := 5) (v := ?zv111061) rfl (by kernel_rfl) (by kernel_rfl) (by kernel_rfl) (fun _ _ _ h => h) (Or.inl ⟨by kernel_rfl, ?zy111061⟩) (by assumption) ?zr111061
                  case zy111061 => (intro w hSw; (try dsimp only at hSw); go_simp; try with_reducible rfl)
                  change wpAnyH _ _ _ _ _ _ _ (Act.put _ (some 84) _) _
                  simp only [Act.put, List.setIfInBounds_toArray, List.set_cons_zero, List.set_cons_succ]
                  refine wpAnyH_take (i := 6) (v := ?zv111062) rfl (by kernel_rfl) (by kernel_rfl) (by kernel_rfl) (fun _ _ _ h => h) (Or.inl ⟨by kernel_rfl, ?zy111062⟩) (by assumption) ?zr111062
                  case zy111062 => (intro w hSw; (try dsimp only at hSw); go_simp; try with_reducible rfl)
                  change wpAnyH _ _ _ _ _ _ _ (Act.put _ (some 90) _) _
                  simp only [Act.put, List.setIfInBounds_toArray, List.set_cons_zero, List.set_cons_succ]
                  refine wpAnyH_take (i := 7) (v := ?zv111063) rfl (by kernel_rfl) (by kernel_rfl) (by kernel_rfl) (fun _ _ _ h => h) (Or.inl ⟨by kernel_rfl, ?zy111063⟩) (by assumption) ?zr111063
                  case zy111063 => (intro w hSw; (try dsimp only at hSw); go_simp; try with_reducible rfl)
                  change wpAnyH _ _ _ _ _ _ _ (Act.put _ (some 91) _) _
                  simp only [Act.put, List.setIfInBounds_toArray, List.set_cons_zero, List.set_cons_succ]
                  refine wpAnyH_ready (rs := [8]) (by kernel_rfl) (by simp) (AllReadyH.cons rfl (fun K hK => ?zo111064_0) AllReadyH.nil)
                  case zo111064_0 =>
                    go_simp
                    refine hK.out _ _ (⟨jr_cells (KB15.out.below (HU3.out.alloc hzu3 _) KB15.out.lt), jr_cells (KR15.out.below (HU3.out.alloc hzu3 _) KR15.out.lt)⟩) (fun hHeld => ?_)
                    clear hK K
                    (try simp only [Act.put, List.setIfInBounds_toArray, List.set_cons_zero, List.set_cons_succ])
                    obtain ⟨U4, EU4⟩ : ∃ U, Hid (U3.alloc (.cells #[.slice none 0 0, .int .i64 0] 29) = U) := ⟨_, rfl⟩
                    have hb4 : Below U3.heap.size U3 U4 := by rw [← EU4.out]; exact (Below.refl _ _).alloc (Nat.le_refl _) _
                    have HU4 : Hid (Below w15.heap.size w15 U4) := HU3.out.trans (hb4.mono hzu3)
                    have hzu4 : w15.heap.size ≤ U4.heap.size := HU4.out.size
                    have RW4 := Lib.hid (RW3.out.below hb4)
                    have KT4 : Hid (Blk U4 U3.heap.size 29 #[.slice none 0 0, .int .i64 0]) := by rw [← EU4.out]; exact Blk.new U3 _ _
                    clear hb4
                    rw [EU4.out] at hHeld ⊢
                    refine wpAnyH_ready (rs := [9]) (by kernel_rfl) (by simp) (AllReadyH.cons rfl (fun K hK => ?zo111065_0) AllReadyH.nil)
                    case zo111065_0 =>
                      go_simp
                      obtain ⟨n0, n1⟩ := jr_cells KT4.out
                      have nf := blk_frozen KT4.out
                      obtain ⟨U5, EU5⟩ : ∃ Q0, Hid ((U4.setCell ⟨U3.heap.size, 0, none⟩ (.slice RA mb rc)).setCell ⟨U3.heap.size, 1, none⟩ (.int .i64 os) = Q0) := ⟨_, rfl⟩
                      have KT5 : Hid (Blk U5 U3.heap.size 29 #[.slice RA mb rc, .int .i64 os]) := by rw [← EU5.out]; exact blk_two KT4.out _ _
                      have RW5 : Hid (OwnRow RK U5 w15.heap.size RA rc rsx) := by rw [← EU5.out]; exact rown_two RW4.out KT4.out _ _
                      have hgg5 : w15.heap.size ≤ U3.heap.size := by have h := hzu3; exact h
                      have HU5 : Hid (Below w15.heap.size w15 U5) := by rw [← EU5.out]; exact below_two HU4.out hgg5 _ _
                      have hzu5 : w15.heap.size ≤ U5.heap.size := HU5.out.size
                      go_simp
                      rw [EU5.out]
                      refine hK.out _ _ (⟨jr_cells (KB15.out.below HU5.out KB15.out.lt), jr_cells (KR15.out.below HU5.out KR15.out.lt)⟩) (fun hHeld => ?_)
                      clear hK K
                      (try simp only [Act.put])
                      clear n0 n1 nf
                      refine wpAnyH_take (i := 10) (v := ?zv111066) rfl (by kernel_rfl) (by kernel_rfl) (by kernel_rfl) (fun _ _ _ h => h) (Or.inl ⟨by kernel_rfl, ?zy111066⟩) (by assumption) ?zr111066
                      case zy111066 => (intro w hSw; (try dsimp only at hSw); go_simp; try with_reducible rfl)
                      change wpAnyH _ _ _ _ _ _ _ (Act.put _ (some 15) _) _
                      simp only [Act.put, List.setIfInBounds_toArray, List.set_cons_zero, List.set_cons_succ]
                      refine wpAnyH_done (by kernel_rfl) ?_ _
                      (try go_wp2_with fail)
                      go_meet
                      exact ⟨_, RA, rc, rfl, rfl, hgg5, KT5, RW5, HU5⟩
                case zo111060_1 =>
                  go_simp
                  refine hK.out _ _ (⟨jr_cells (KB15.out.below (HU2.out.alloc hzu2 _) KB15.out.lt), jr_cells (KR15.out.below (HU2.out.alloc hzu2 _) KR15.out.lt)⟩) (fun hHeld => ?_)
                  clear hK K
                  (try simp only [Act.put, List.setIfInBounds_toArray, List.set_cons_zero, List.set_cons_succ])
                  obtain ⟨U3, EU3⟩ : ∃ U, Hid (U2.alloc (.cells #[.slice none 0 0, .int .i64 0] 29) = U) := ⟨_, rfl⟩
                  have hb3 : Below U2.heap.size U2 U3 := by rw [← EU3.out]; exact (Below.refl _ _).alloc (Nat.le_refl _) _
                  have HU3 : Hid (Below w15.heap.size w15 U3) := HU2.out.trans (hb3.mono hzu2)
                  have hzu3 : w15.heap.size ≤ U3.heap.size := HU3.out.size
                  have TJ3 := Lib.hid (TJ2.out.below hb3)
                  have KT3 : Hid (Blk U3 U2.heap.size 29 #[.slice none 0 0, .int .i64 0]) := by rw [← EU3.out]; exact Blk.new U2 _ _
                  clear hb3
                  rw [EU3.out] at hHeld ⊢
                  refine wpAnyH_ready (rs := [4]) (by kernel_rfl) (by simp) (AllReadyH.cons rfl (fun K hK => ?zo111067_0) AllReadyH.nil)
                  case zo111067_0 =>
                    go_simp
                    go_at_call 16
                    refine (IMPL.out _ _ U3 (own_jat TJ3.out HF.out)).mono ?_
                    rintro e U4 ⟨RA, rc, rfl, ho4, hb4⟩
                    have HU4 : Hid (Below w15.heap.size w15 U4) := HU3.out.trans (hb4.mono hzu3)
                    have hzu4 : w15.heap.size ≤ U4.heap.size := HU4.out.size
                    have KT4 := Lib.hid (KT3.out.below hb4 KT3.out.lt)
                    have RW4 := Lib.hid (ho4.base_le hzu3)
                    clear ho4 hb4
                    refine hK.out _ _ (⟨jr_cells (KB15.out.below HU4.out KB15.out.lt), jr_cells (KR15.out.below HU4.out KR15.out.lt)⟩) (fun hHeld => ?_)
                    clear hK K
                    (try simp only [Act.put, List.setIfInBounds_toArray, List.set_cons_zero, List.set_cons_succ])
                    refine wpAnyH_take (i := 5) (v := ?zv111068) rfl (by kernel_rfl) (by kernel_rfl) (by kernel_rfl) (fun _ _ _ h => h) (Or.inl ⟨by kernel_rfl, ?zy111068⟩) (by assumption) ?zr111068
                    case zy111068 => (intro w hSw; (try dsimp only at hSw); go_simp; try with_reducible rfl)
                    change wpAnyH _ _ _ _ _ _ _ (Act.put _ (some 84) _) _
                    simp only [Act.put, List.setIfInBounds_toArray, List.set_cons_zero, List.set_cons_succ]
                    refine wpAnyH_take (i := 6) (v := ?zv111069) rfl (by kernel_rfl) (by kernel_rfl) (by kernel_rfl) (fun _ _ _ h => h) (Or.inl ⟨by kernel_rfl, ?zy111069⟩) (by assumption) ?zr111069
                    case zy111069 => (intro w hSw; (try dsimp only at hSw); go_simp; try with_reducible rfl)
                    change wpAnyH _ _ _ _ _ _ _ (Act.put _ (some 90) _) _
                    simp only [Act.put, List.setIfInBounds_toArray, List.set_cons_zero, List.set_cons_succ]
                    refine wpAnyH_take (i := 7) (v := ?zv111070) rfl (by kernel_rfl) (by kernel_rfl) (by kernel_rfl) (fun _ _ _ h => h) (Or.inl ⟨by kernel_rfl, ?zy111070⟩) (by assumption) ?zr111070
                    case zy111070 => (intro w hSw; (try dsimp only at hSw); go_simp; try with_reducible rfl)
                    change wpAnyH _ _ _ _ _ _ _ (Act.put _ (some 91) _) _
                    simp only [Act.put, List.setIfInBounds_toArray, List.set_cons_zero, List.set_cons_succ]
                    refine wpAnyH_ready (rs := [9]) (by kernel_rfl) (by simp) (AllReadyH.cons rfl (fun K hK => ?zo111071_0) AllReadyH.nil)
                    case zo111071_0 =>
                      go_simp
                      obtain ⟨n0, n1⟩ := jr_cells KT4.out
                      have nf := blk_frozen KT4.out
                      obtain ⟨U5, EU5⟩ : ∃ Q0, Hid ((U4.setCell ⟨U2.heap.size, 0, none⟩ (.slice RA mb rc)).setCell ⟨U2.heap.size, 1, none⟩ (.int .i64 os) = Q0) := ⟨_, rfl⟩
                      have KT5 : Hid (Blk U5 U2.heap.size 29 #[.slice RA mb rc, .int .i64 os]) := by rw [← EU5.out]; exact blk_two KT4.out _ _
                      have RW5 : Hid (OwnRow RK U5 w15.heap.size RA rc rsx) := by rw [← EU5.out]; exact rown_two RW4.out KT4.out _ _
                      have hgg5 : w15.heap.size ≤ U2.heap.size := by have h := hzu2; exact h
                      have HU5 : Hid (Below w15.heap.size w15 U5) := by rw [← EU5.out]; exact below_two HU4.out hgg5 _ _
                      have hzu5 : w15.heap.size ≤ U5.heap.size := HU5.out.size
                      go_simp
                      rw [EU5.out]
                      refine hK.out _ _ (⟨jr_cells (KB15.out.below HU5.out KB15.out.lt), jr_cells (KR15.out.below HU5.out KR15.out.lt)⟩) (fun hHeld => ?_)
                      clear hK K
                      (try simp only [Act.put])
                      clear n0 n1 nf
                      refine wpAnyH_take (i := 10) (v := ?zv111072) rfl (by kernel_rfl) (by kernel_rfl) (by kernel_rfl) (fun _ _ _ h => h) (Or.inl ⟨by kernel_rfl, ?zy111072⟩) (by assumption) ?zr111072
                      case zy111072 => (intro w hSw; (try dsimp only at hSw); go_simp; try with_reducible rfl)
                      change wpAnyH _ _ _ _ _ _ _ (Act.put _ (some 15) _) _
                      simp only [Act.put, List.setIfInBounds_toArray, List.set_cons_zero, List.set_cons_succ]
                      refine wpAnyH_done (by kernel_rfl) ?_ _
                      (try go_wp2_with fail)
                      go_meet
                      exact ⟨_, RA, rc, rfl, rfl, hgg5, KT5, RW5, HU5⟩
              case zo111059_1 =>
                go_simp
                refine hK.out _ _ (⟨jr_cells (KB15.out.below (HU1.out.alloc hzu1 _) KB15.out.lt), jr_cells (KR15.out.below (HU1.out.alloc hzu1 _) KR15.out.lt)⟩) (fun hHeld => ?_)
                clear hK K
                (try simp only [Act.put, List.setIfInBounds_toArray, List.set_cons_zero, List.set_cons_succ])
                obtain ⟨U2, EU2⟩ : ∃ U, Hid (U1.alloc (.cells #[.slice none 0 0, .int .i64 0] 29) = U) := ⟨_, rfl⟩
                have hb2 : Below U1.heap.size U1 U2 := by rw [← EU2.out]; exact (Below.refl _ _).alloc (Nat.le_refl _) _
                have HU2 : Hid (Below w15.heap.size w15 U2) := HU1.out.trans (hb2.mono hzu1)
                have hzu2 : w15.heap.size ≤ U2.heap.size := HU2.out.size
                have TJ2 := Lib.hid (TJ1.out.below hb2)
                have KT2 : Hid (Blk U2 U1.heap.size 29 #[.slice none 0 0, .int .i64 0]) := by rw [← EU2.out]; exact Blk.new U1 _ _
                clear hb2
                rw [EU2.out] at hHeld ⊢
                refine wpAnyH_ready (rs := [3]) (by kernel_rfl) (by simp) (AllReadyH.cons rfl (fun K hK => ?zo111073_0) AllReadyH.nil)
                case zo111073_0 =>
                  go_simp
                  go_at_call 15
                  refine (toR_any ⟨ri, rt⟩ U2).mono ?_
                  rintro e U3 ⟨rfl, hb3⟩
                  have HU3 : Hid (Below w15.heap.size w15 U3) := HU2.out.trans (hb3.mono hzu2)
                  have hzu3 : w15.heap.size ≤ U3.heap.size := HU3.out.size
                  have TJ3 := Lib.hid (TJ2.out.below hb3)
                  have KT3 := Lib.hid (KT2.out.below hb3 KT2.out.lt)
                  clear hb3
                  refine hK.out _ _ (⟨jr_cells (KB15.out.below HU3.out KB15.out.lt), jr_cells (KR15.out.below HU3.out KR15.out.lt)⟩) (fun hHeld => ?_)
                  clear hK K
                  (try simp only [Act.put, List.setIfInBounds_toArray, List.set_cons_zero, List.set_cons_succ])
                  refine wpAnyH_ready (rs := [4]) (by kernel_rfl) (by simp) (AllReadyH.cons rfl (fun K hK => ?zo111074_0) AllReadyH.nil)
                  case zo111074_0 =>
                    go_simp
                    go_at_call 16
                    refine (IMPL.out _ _ U3 (own_jat TJ3.out HF.out)).mono ?_
                    rintro e U4 ⟨RA, rc, rfl, ho4, hb4⟩
                    have HU4 : Hid (Below w15.heap.size w15 U4) := HU3.out.trans (hb4.mono hzu3)
                    have hzu4 : w15.heap.size ≤ U4.heap.size := HU4.out.size
                    have KT4 := Lib.hid (KT3.out.below hb4 KT3.out.lt)
                    have RW4 := Lib.hid (ho4.base_le hzu3)
                    clear ho4 hb4
                    refine hK.out _ _ (⟨jr_cells (KB15.out.below HU4.out KB15.out.lt), jr_cells (KR15.out.below HU4.out KR15.out.lt)⟩) (fun hHeld => ?_)
                    clear hK K
                    (try simp only [Act.put, List.setIfInBounds_toArray, List.set_cons_zero, List.set_cons_succ])
                    refine wpAnyH_take (i := 5) (v := ?zv111075) rfl (by kernel_rfl) (by kernel_rfl) (by kernel_rfl) (fun _ _ _ h => h) (Or.inl ⟨by kernel_rfl, ?zy111075⟩) (by assumption) ?zr111075
                    case zy111075 => (intro w hSw; (try dsimp only at hSw); go_simp; try with_reducible rfl)
                    change wpAnyH _ _ _ _ _ _ _ (Act.put _ (some 84) _) _
                    simp only [Act.put, List.setIfInBounds_toArray, List.set_cons_zero, List.set_cons_succ]
                    refine wpAnyH_take (i := 6) (v := ?zv111076) rfl (by kernel_rfl) (by kernel_rfl) (by kernel_rfl) (fun _ _ _ h => h) (Or.inl ⟨by kernel_rfl, ?zy111076⟩) (by assumption) ?zr111076
                    case zy111076 => (intro w hSw; (try dsimp only at hSw); go_simp; try with_reducible rfl)
                    change wpAnyH _ _ _ _ _ _ _ (Act.put _ (some 90) _) _
                    simp only [Act.put, List.setIfInBounds_toArray, List.set_cons_zero, List.set_cons_succ]
                    refine wpAnyH_take (i := 7) (v := ?zv111077) rfl (by kernel_rfl) (by kernel_rfl) (by kernel_rfl) (fun _ _ _ h => h) (Or.inl ⟨by kernel_rfl, ?zy111077⟩) (by assumption) ?zr111077
                    case zy111077 => (intro w hSw; (try dsimp only at hSw); go_simp; try with_reducible rfl)
                    change wpAnyH _ _ _ _ _ _ _ (Act.put _ (some 91) _) _
                    simp only [Act.put, List.setIfInBounds_toArray, List.set_cons_zero, List.set_cons_succ]
                    refine wpAnyH_ready (rs := [9]) (by kernel_rfl) (by simp) (AllReadyH.cons rfl (fun K hK => ?zo111078_0) AllReadyH.nil)
                    case zo111078_0 =>
                      go_simp
                      obtain ⟨n0, n1⟩ := jr_cells KT4.out
                      have nf := blk_frozen KT4.out
                      obtain ⟨U5, EU5⟩ : ∃ Q0, Hid ((U4.setCell ⟨U1.heap.size, 0, none⟩ (.slice RA mb rc)).setCell ⟨U1.heap.size, 1, none⟩ (.int .i64 os) = Q0) := ⟨_, rfl⟩
                      have KT5 : Hid (Blk U5 U1.heap.size 29 #[.slice RA mb rc, .int .i64 os]) := by rw [← EU5.out]; exact blk_two KT4.out _ _
                      have RW5 : Hid (OwnRow RK U5 w15.heap.size RA rc rsx) := by rw [← EU5.out]; exact rown_two RW4.out KT4.out _ _
                      have hgg5 : w15.heap.size ≤ U1.heap.size := by have h := hzu1; exact h
                      have HU5 : Hid (Below w15.heap.size w15 U5) := by rw [← EU5.out]; exact below_two HU4.out hgg5 _ _
                      have hzu5 : w15.heap.size ≤ U5.heap.size := HU5.out.size
                      go_simp
                      rw [EU5.out]
                      refine hK.out _ _ (⟨jr_cells (KB15.out.below HU5.out KB15.out.lt), jr_cells (KR15.out.below HU5.out KR15.out.lt)⟩) (fun hHeld => ?_)
                      clear hK K
                      (try simp only [Act.put])
                      clear n0 n1 nf
                      refine wpAnyH_take (i := 10) (v := ?zv111079) rfl (by kernel_rfl) (by kernel_rfl) (by kernel_rfl) (fun _ _ _ h => h) (Or.inl ⟨by kernel_rfl, ?zy111079⟩) (by assumption) ?zr111079
                      case zy111079 => (intro w hSw; (try dsimp only at hSw); go_simp; try with_reducible rfl)
                      change wpAnyH _ _ _ _ _ _ _ (Act.put _ (some 15) _) _
                      simp only [Act.put, List.setIfInBounds_toArray, List.set_cons_zero, List.set_cons_succ]
                      refine wpAnyH_done (by kernel_rfl) ?_ _
                      (try go_wp2_with fail)
                      go_meet
                      exact ⟨_, RA, rc, rfl, rfl, hgg5, KT5, RW5, HU5⟩
            case zo111058_1 =>
              go_simp
              refine hK.out _ _ (⟨jr_cells (KB15.out.below (HU0.out.alloc hzu0 _) KB15.out.lt), jr_cells (KR15.out.below (HU0.out.alloc hzu0 _) KR15.out.lt)⟩) (fun hHeld => ?_)
              clear hK K
              (try simp only [Act.put, List.setIfInBounds_toArray, List.set_cons_zero, List.set_cons_succ])
              obtain ⟨U1, EU1⟩ : ∃ U, Hid (U0.alloc (.cells #[.slice none 0 0, .int .i64 0] 29) = U) := ⟨_, rfl⟩
              have hb1 : Below U0.heap.size U0 U1 := by rw [← EU1.out]; exact (Below.refl _ _).alloc (Nat.le_refl _) _
              have HU1 : Hid (Below w15.heap.size w15 U1) := HU0.out.trans (hb1.mono hzu0)
              have hzu1 : w15.heap.size ≤ U1.heap.size := HU1.out.size
              have KT1 : Hid (Blk U1 U0.heap.size 29 #[.slice none 0 0, .int .i64 0]) := by rw [← EU1.out]; exact Blk.new U0 _ _
              clear hb1
              rw [EU1.out] at hHeld ⊢
              refine wpAnyH_ready (rs := [1]) (by kernel_rfl) (by simp) (AllReadyH.cons rfl (fun K hK => ?zo111080_0) AllReadyH.nil)
              case zo111080_0 =>
                go_simp
                go_at_call 10
                refine (toJ_any A cap s rs U1 (HI15.out.belowS HU1.out) HL.out HN.out).mono ?_
                rintro e U2 ⟨gt, rfl, ho2, hb2⟩
                have HU2 : Hid (Below w15.heap.size w15 U2) := HU1.out.trans (hb2.mono hzu1)
                have hzu2 : w15.heap.size ≤ U2.heap.size := HU2.out.size
                have KT2 := Lib.hid (KT1.out.below hb2 KT1.out.lt)
                have TJ2 := Lib.hid ho2
                clear ho2 hb2
                refine hK.out _ _ (⟨jr_cells (KB15.out.below HU2.out KB15.out.lt), jr_cells (KR15.out.below HU2.out KR15.out.lt)⟩) (fun hHeld => ?_)
                clear hK K
                (try simp only [Act.put, List.setIfInBounds_toArray, List.set_cons_zero, List.set_cons_succ])
                refine wpAnyH_ready (rs := [3]) (by kernel_rfl) (by simp) (AllReadyH.cons rfl (fun K hK => ?zo111081_0) AllReadyH.nil)
                case zo111081_0 =>
                  go_simp
                  go_at_call 15
                  refine (toR_any ⟨ri, rt⟩ U2).mono ?_
                  rintro e U3 ⟨rfl, hb3⟩
                  have HU3 : Hid (Below w15.heap.size w15 U3) := HU2.out.trans (hb3.mono hzu2)
                  have hzu3 : w15.heap.size ≤ U3.heap.size := HU3.out.size
                  have KT3 := Lib.hid (KT2.out.below hb3 KT2.out.lt)
                  have TJ3 := Lib.hid (TJ2.out.below hb3)
                  clear hb3
                  refine hK.out _ _ (⟨jr_cells (KB15.out.below HU3.out KB15.out.lt), jr_cells (KR15.out.below HU3.out KR15.out.lt)⟩) (fun hHeld => ?_)
                  clear hK K
                  (try simp only [Act.put, List.setIfInBounds_toArray, List.set_cons_zero, List.set_cons_succ])
                  refine wpAnyH_ready (rs := [4]) (by kernel_rfl) (by simp) (AllReadyH.cons rfl (fun K hK => ?zo111082_0) AllReadyH.nil)
                  case zo111082_0 =>
                    go_simp
                    go_at_call 16
                    refine (IMPL.out _ _ U3 (own_jat TJ3.out HF.out)).mono ?_
                    rintro e U4 ⟨RA, rc, rfl, ho4, hb4⟩
                    have HU4 : Hid (Below w15.heap.size w15 U4) := HU3.out.trans (hb4.mono hzu3)
                    have hzu4 : w15.heap.size ≤ U4.heap.size := HU4.out.size
                    have KT4 := Lib.hid (KT3.out.below hb4 KT3.out.lt)
                    have RW4 := Lib.hid (ho4.base_le hzu3)
                    clear ho4 hb4
                    refine hK.out _ _ (⟨jr_cells (KB15.out.below HU4.out KB15.out.lt), jr_cells (KR15.out.below HU4.out KR15.out.lt)⟩) (fun hHeld => ?_)
                    clear hK K
                    (try simp only [Act.put, List.setIfInBounds_toArray, List.set_cons_zero, List.set_cons_succ])
                    refine wpAnyH_take (i := 5) (v := ?zv111083) rfl (by kernel_rfl) (by kernel_rfl) (by kernel_rfl) (fun _ _ _ h => h) (Or.inl ⟨by kernel_rfl, ?zy111083⟩) (by assumption) ?zr111083
                    case zy111083 => (intro w hSw; (try dsimp only at hSw); go_simp; try with_reducible rfl)
                    change wpAnyH _ _ _ _ _ _ _ (Act.put _ (some 84) _) _
                    simp only [Act.put, List.setIfInBounds_toArray, List.set_cons_zero, List.set_cons_succ]
                    refine wpAnyH_take (i := 6) (v := ?zv111084) rfl (by kernel_rfl) (by kernel_rfl) (by kernel_rfl) (fun _ _ _ h => h) (Or.inl ⟨by kernel_rfl, ?zy111084⟩) (by assumption) ?zr111084
                    case zy111084 => (intro w hSw; (try dsimp only at hSw); go_simp; try with_reducible rfl)
                    change wpAnyH _ _ _ _ _ _ _ (Act.put _ (some 90) _) _
                    simp only [Act.put, List.setIfInBounds_toArray, List.set_cons_zero, List.set_cons_succ]
                    refine wpAnyH_take (i := 7) (v := ?zv111085) rfl (by kernel_rfl) (by kernel_rfl) (by kernel_rfl) (fun _ _ _ h => h) (Or.inl ⟨by kernel_rfl, ?zy111085⟩) (by assumption) ?zr111085
                    case zy111085 => (intro w hSw; (try dsimp only at hSw); go_simp; try with_reducible rfl)
                    change wpAnyH _ _ _ _ _ _ _ (Act.put _ (some 91) _) _
                    simp only [Act.put, List.setIfInBounds_toArray, List.set_cons_zero, List.set_cons_succ]
                    refine wpAnyH_ready (rs := [9]) (by kernel_rfl) (by simp) (AllReadyH.cons rfl (fun K hK => ?zo111086_0) AllReadyH.nil)
                    case zo111086_0 =>
                      go_simp
                      obtain ⟨n0, n1⟩ := jr_cells KT4.out
                      have nf := blk_frozen KT4.out
                      obtain ⟨U5, EU5⟩ : ∃ Q0, Hid ((U4.setCell ⟨U0.heap.size, 0, none⟩ (.slice RA mb rc)).setCell ⟨U0.heap.size, 1, none⟩ (.int .i64 os) = Q0) := ⟨_, rfl⟩
                      have KT5 : Hid (Blk U5 U0.heap.size 29 #[.slice RA mb rc, .int .i64 os]) := by rw [← EU5.out]; exact blk_two KT4.out _ _
                      have RW5 : Hid (OwnRow RK U5 w15.heap.size RA rc rsx) := by rw [← EU5.out]; exact rown_two RW4.out KT4.out _ _
                      have hgg5 : w15.heap.size ≤ U0.heap.size := by have h := hzu0; exact h
                      have HU5 : Hid (Below w15.heap.size w15 U5) := by rw [← EU5.out]; exact below_two HU4.out hgg5 _ _
                      have hzu5 : w15.heap.size ≤ U5.heap.size := HU5.out.size
                      go_simp
                      rw [EU5.out]
                      refine hK.out _ _ (⟨jr_cells (KB15.out.below HU5.out KB15.out.lt), jr_cells (KR15.out.below HU5.out KR15.out.lt)⟩) (fun hHeld => ?_)
                      clear hK K
                      (try simp only [Act.put])
                      clear n0 n1 nf
                      refine wpAnyH_take (i := 10) (v := ?zv111087) rfl (by kernel_rfl) (by kernel_rfl) (by kernel_rfl) (fun _ _ _ h => h) (Or.inl ⟨by kernel_rfl, ?zy111087⟩) (by assumption) ?zr111087
                      case zy111087 => (intro w hSw; (try dsimp only at hSw); go_simp; try with_reducible rfl)
                      change wpAnyH _ _ _ _ _ _ _ (Act.put _ (some 15) _) _
                      simp only [Act.put, List.setIfInBounds_toArray, List.set_cons_zero, List.set_cons_succ]
                      refine wpAnyH_done (by kernel_rfl) ?_ _
                      (try go_wp2_with fail)
                      go_meet
                      exact ⟨_, RA, rc, rfl, rfl, hgg5, KT5, RW5, HU5⟩
          case rest =>
            obtain ⟨w17, hwn⟩ : ∃ y, y = wc := ⟨_, rfl⟩
            subst hwn
            obtain ⟨gh, A17, c17, rfl, rfl, hr17, LH17, RH17, hbc17⟩ := hcut
            have hb17 := hbc17.out
            have hlr17 : gh < w17.heap.size := LH17.out.lt
            have hne17 : ∀ g, A17 = some ⟨g, 0, none⟩ → g ≠ gh := fun g hA => own_ne_blk RH17.out LH17.out (by decide) g hA
            have hla17 : Hid (∀ g, A17 = some ⟨g, 0, none⟩ → w15.heap.size ≤ g ∧ g < w17.heap.size) := RH17.out.lies
            have HI17 := Lib.hid (HI15.out.belowS hb17)
            have KB17 := Lib.hid (KB15.out.below hb17 KB15.out.lt)
            have KR17 := Lib.hid (KR15.out.below hb17 KR15.out.lt)
            have RW17 := Lib.hid (RW15.out.below hb17)
            have LW17 := Lib.hid (LW15.out.below hb17 LW15.out.lt)
            have LG17 := Lib.hid (LG15.out.below hb17 LG15.out.lt)
            have RM17 := Lib.hid (RM15.out.below hb17)
            have HB17 : Hid (Below w.heap.size w w17) := HB15.out.trans (hb17.mono HB15.out.size)
            have hz17 : w15.heap.size ≤ w17.heap.size := hb17.size
            clear hb17
            clear hbc17
            obtain ⟨lh0, lh1⟩ := jr_cells LH17.out
            obtain ⟨lw0, lw1⟩ := jr_cells LW17.out
            go_wp2_with fail
            refine (eqJ_any A17 c17 A3 c3 os rsx w17 RH17.out.at_ RW17.out.at_ HMM.out HM.out).mono ?_
            rintro e w18 ⟨rfl, hb18⟩
            have HI18 := Lib.hid (HI17.out.belowS hb18)
            have KB18 := Lib.hid (KB17.out.below hb18 KB17.out.lt)
            have KR18 := Lib.hid (KR17.out.below hb18 KR17.out.lt)
            have RW18 := Lib.hid (RW17.out.below hb18)
            have LW18 := Lib.hid (LW17.out.below hb18 LW17.out.lt)
            have LG18 := Lib.hid (LG17.out.below hb18 LG17.out.lt)
            have RM18 := Lib.hid (RM17.out.below hb18)
            have RH18 := Lib.hid (RH17.out.below hb18)
            have LH18 := Lib.hid (LH17.out.below hb18 LH17.out.lt)
            have HB18 : Hid (Below w.heap.size w w18) := HB17.out.trans (hb18.mono HB17.out.size)
            have hz18 : w17.heap.size ≤ w18.heap.size := hb18.size
            clear hb18
            clear lh0 lh1 lw0 lw1
            obtain ⟨lg0, lg1⟩ := jr_cells LG18.out
            go_wp2_with fail
            refine (heldJ_any A7 c7 mb os w18 RM18.out.at_ hmb).mono ?_
            rintro e w19 ⟨rfl, hb19⟩
            have HB19 : Hid (Below w.heap.size w w19) := HB18.out.trans (hb19.mono HB18.out.size)
            clear hb19
            go_wp2
            go_ret
            exact ⟨rfl, HB19.out⟩

end Go.Proofs.Ytmddfjfflgfdlaa
