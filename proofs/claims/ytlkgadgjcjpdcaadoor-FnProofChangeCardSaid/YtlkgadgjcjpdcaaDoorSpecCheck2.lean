/- Contract of the model's TreeCheck: whether a proof shows a leaf. Condition: the proof lies in memory. -/
import Derived.Test.YtlkgadgjcjpdcaaDoorTreeCheck
import Derived.Test.YtlkgadgjcjpdcaaDoorSpecProof
import Derived.Test.YtlkgadgjcjpdcaaDoorSpecDigs
namespace Go.Proofs.YtlkgadgjcjpdcaaDoor
open Go.RowKit
set_option linter.unusedVariables false

theorem drop_cons_nth (zs : List Int) (u : Nat) (h : u < zs.length) : zs.drop u = nth zs u :: zs.drop (u + 1) := by
  rw [List.drop_eq_getElem_cons h, nth, List.getD_eq_getElem?_getD, List.getElem?_eq_getElem h]
  rfl
theorem climbS_step {i size f st : Nat} {t p : Int} {ps : List Int} (h : st < size) : climbS pairZ i size (f + 1) st t (p :: ps) = climbS pairZ i size f (2 * st) (if i / st % 2 = 0 then pairZ t p else pairZ p t) ps := by
  show (if _ then _ else _) = _
  rw [if_pos h]
theorem climbS_none {i size f st : Nat} {t : Int} (h : st < size) : climbS pairZ i size (f + 1) st t [] = none := by
  show (if _ then _ else _) = _
  rw [if_pos h]
theorem climbS_stop {i size f st : Nat} {t : Int} {ps : List Int} (h : ¬ st < size) : climbS pairZ i size f st t ps = some (t, ps) := by
  cases f with
  | zero => rfl
  | succ f => show (if _ then _ else _) = _; rw [if_neg h]

/-- Where the first loop stands. -/
structure ClimbSAt (zs : List Int) (i size : Nat) (leaf t : Int) (u st f : Nat) : Prop where
  rest : climbS pairZ i size f st t (zs.drop u) = climbS pairZ i size 5 1 leaf zs
  form : (st = 1 ∧ f = 5) ∨ (st = 2 ∧ f = 4) ∨ (st = 4 ∧ f = 3) ∨ (st = 8 ∧ f = 2) ∨ (st = 16 ∧ f = 1)
  bd : 0 ≤ t ∧ t < 991
/-- Where the second loop stands. -/
structure OutSAt (zs : List Int) (n i : Nat) (leaf : Int) (at_ : Nat) (root o : Int) (u s f : Nat) : Prop where
  rest : outS pairZ at_ root (placesGo f s n) o (zs.drop u) = checkS pairZ n n i leaf zs
  fuel : n < s + f
  bd : 0 ≤ o ∧ o < 991

set_option maxHeartbeats 4000000 in
set_option maxRecDepth 100000 in
theorem lcheck_any (digest leaf : Int) (n i : Nat) (zs : List Int) (A : Option Addr) (cap : Nat) (w : World) (hI : IntsAt w w.heap.size A zs) (hmax : zs.length ≤ maxLen) (h1 : 1 ≤ n) (h16 : n ≤ 16) (hi : i < n) (hl0 : 0 ≤ leaf) (hl1 : leaf < 991) (hd : Digs zs) :
    Calls Tryd.prog 48 #[.int .i64 digest, .int .i64 (n : Int), .int .i64 (i : Int), .int .i64 leaf, .slice A zs.length cap] w fun e w' => e = .returned (.bool (decide (checkS pairZ n n i leaf zs = some (digest, [])))) ∧ w = w' := by
  have HI := Lib.hid hI
  have HD := Lib.hid hd
  obtain ⟨L, HL⟩ : ∃ L, Hid (zs.length = L) := ⟨_, rfl⟩
  rw [HL.out] at hmax ⊢
  unfold maxLen at hmax
  obtain ⟨at_, HAT⟩ : ∃ a, Hid ((peakOf n i).1 = a) := ⟨_, rfl⟩
  obtain ⟨size, HSZ⟩ : ∃ s, Hid ((peakOf n i).2 = s) := ⟨_, rfl⟩
  have hs16 : size ≤ 16 := by
    obtain ⟨_, _, h3⟩ := place_facts h16 hi
    obtain ⟨_, h4, _⟩ := h3 (placeOf n i) (Nat.le_refl _)
    rw [← HSZ.out]
    show szOf n (placeOf n i) ≤ 16
    omega
  obtain ⟨R, HR⟩ : ∃ R : Bool, Hid (decide (checkS pairZ n n i leaf zs = some (digest, [])) = R) := ⟨_, rfl⟩
  rw [HR.out]
  have HCS : Hid (checkS pairZ n n i leaf zs = (climbS pairZ i size 5 1 leaf zs).bind fun r => outS pairZ at_ r.1 (places 0 n) n r.2) := by
    show _ = _
    unfold checkS
    rw [HSZ.out, HAT.out]
  clear hI hd
  go_enter Tryd.func48, Tryd.ntmps48
  go_wp2_with fail
  refine (speak_any n i _ h16 hi).mono ?_
  rintro e w' ⟨rfl, rfl⟩
  rw [HAT.out, HSZ.out]
  go_wp2
  go_loop [13, 14, 15] (fun rt us stp => ∃ (t : Int) (u k f : Nat), u ≤ L ∧ rt = .int .i64 t ∧ us = .int .i64 (u : Int) ∧ stp = .int .i64 (k : Int) ∧ ClimbSAt zs i size leaf t u k f) (fun _ _ stp => 16 - (intOf stp).toNat)
  case atStart => exact ⟨leaf, 0, 1, 5, by omega, rfl, rfl, rfl, rfl, by omega, hl0, hl1⟩
  case round =>
    obtain ⟨t, u, k, f, hu, rfl, rfl, rfl, hC⟩ := hrel
    have HC := Lib.hid hC
    have hform := hC.form
    obtain ⟨t0, t1⟩ := hC.bd
    clear hC
    by_cases hlt : k < size
    · have hk1 : 1 ≤ k := by omega
      have hk16 : k ≤ 16 := by omega
      obtain ⟨f, rfl⟩ : ∃ f', f = f' + 1 := ⟨f - 1, by omega⟩
      by_cases hul : u < L
      · have huz : u < zs.length := by rw [HL.out]; exact hul
        obtain ⟨b, o, rfl, hb, hcell⟩ := HI.out (by omega)
        have hcu := hcell u huz
        obtain ⟨r0, r1⟩ := HD.out.at_ u huz
        obtain ⟨r, HRR⟩ : ∃ r, Hid (nth zs u = r) := ⟨_, rfl⟩
        rw [HRR.out] at hcu r0 r1
        obtain ⟨q, HQ⟩ : ∃ q, Hid (i / k = q) := ⟨_, rfl⟩
        have hq16 : q ≤ 16 := by rw [← HQ.out]; exact Nat.le_trans (Nat.div_le_self i k) (by omega)
        have e1 : (i : Int) / (k : Int) = (q : Int) := by rw [← HQ.out]; exact (Int.natCast_ediv i k).symm
        have hne : ((u : Int) == (L : Int)) = false := by rw [beq_eq_false_iff_ne]; omega
        have hui : (u : Int) < (L : Int) := by omega
        have HREST : Hid (climbS pairZ i size f (2 * k) (if q % 2 = 0 then pairZ t r else pairZ r t) (zs.drop (u + 1)) = climbS pairZ i size 5 1 leaf zs) := by
          show _ = _
          rw [← HC.out.rest, drop_cons_nth zs u huz, climbS_step hlt, HRR.out, HQ.out]
        clear hcell huz
        by_cases hpar : q % 2 = 0
        · have e4 : (q : Int) % 2 = 0 := by omega
          have HREST' : Hid (climbS pairZ i size f (2 * k) (pairZ t r) (zs.drop (u + 1)) = climbS pairZ i size 5 1 leaf zs) := by
            have := HREST.out
            rw [if_pos hpar] at this
            exact this
          clear hpar
          go_wp2_with fail
          refine (spair1_any _ _ _ t0 t1 r0 r1).mono ?_
          rintro e w' ⟨rfl, rfl⟩
          go_wp2
          go_round
          case rel => exact ⟨pairZ t r, u + 1, 2 * k, f, by omega, rfl, by go_num, by go_num, HREST'.out, by omega, pairZ_bd _ _⟩
          case measure => simp [intOf]; omega
        · have e4 : ((q : Int) % 2 == 0) = false := by simp; omega
          have HREST' : Hid (climbS pairZ i size f (2 * k) (pairZ r t) (zs.drop (u + 1)) = climbS pairZ i size 5 1 leaf zs) := by
            have := HREST.out
            rw [if_neg hpar] at this
            exact this
          clear hpar
          go_wp2_with fail
          refine (spair1_any _ _ _ r0 r1 t0 t1).mono ?_
          rintro e w' ⟨rfl, rfl⟩
          go_wp2
          go_round
          case rel => exact ⟨pairZ r t, u + 1, 2 * k, f, by omega, rfl, by go_num, by go_num, HREST'.out, by omega, pairZ_bd _ _⟩
          case measure => simp [intOf]; omega
      · have huL : u = L := by omega
        subst huL
        have HRF : Hid (R = false) := by
          show _ = _
          rw [← HR.out, HCS.out, ← HC.out.rest, List.drop_eq_nil_of_le (by rw [HL.out]; omega), climbS_none hlt]
          rfl
        have heq : ((u : Int) == (u : Int)) = true := by simp
        go_wp2
        go_ret
        exact ⟨ret_bool HRF.out.symm, rfl⟩
    · have HOUT : Hid (outS pairZ at_ t (placesGo 17 0 n) n (zs.drop u) = checkS pairZ n n i leaf zs) := by
        show _ = _
        rw [HCS.out, ← HC.out.rest, climbS_stop hlt]
        rfl
      clear hform
      go_wp2
      go_loop [14, 16, 17] (fun us ou kk => ∃ (o : Int) (v s f1 : Nat), v ≤ L ∧ s ≤ n ∧ us = .int .i64 (v : Int) ∧ ou = .int .i64 o ∧ kk = .int .i64 (s : Int) ∧ OutSAt zs n i leaf at_ t o v s f1) (fun _ _ kk => n - (intOf kk).toNat)
      case atStart => exact ⟨(n : Int), u, 0, 17, hu, by omega, rfl, rfl, rfl, HOUT.out, by omega, by omega, by omega⟩
      case round =>
        obtain ⟨o, v, s, f1, hv, hs, rfl, rfl, rfl, hE⟩ := hrel
        have HE := Lib.hid hE
        obtain ⟨o0, o1⟩ := hE.bd
        clear hE
        by_cases hsn : s < n
        · obtain ⟨f1, rfl⟩ : ∃ f', f1 = f' + 1 := by
            cases f1 with
            | zero => have := HE.out.fuel; omega
            | succ f => exact ⟨f, rfl⟩
          obtain ⟨z, HZ⟩ : ∃ z, Hid (sizeAt s (n - s) = z) := ⟨_, rfl⟩
          have hz1 : 1 ≤ z := by rw [← HZ.out]; exact sizeAt_pos _ _
          have hz2 : z ≤ n - s := by rw [← HZ.out]; exact sizeAt_le _ _ (by omega)
          by_cases hat : s = at_
          · have HREST : Hid (outS pairZ at_ t (placesGo f1 (s + z) n) (pairZ o t) (zs.drop v) = checkS pairZ n n i leaf zs) := by
              show _ = _
              rw [← HE.out.rest, placesGo_step hsn, HZ.out]
              show _ = (if _ then _ else _)
              rw [if_pos hat]
            subst hat
            have heq : ((s : Int) == (s : Int)) = true := by simp
            go_wp2_with fail
            refine (spair1_any _ _ _ o0 o1 t0 t1).mono ?_
            rintro e w' ⟨rfl, rfl⟩
            go_wp2_with fail
            refine (ssize_any s n _ (by omega) (by omega)).mono ?_
            rintro e w' ⟨rfl, rfl⟩
            rw [HZ.out]
            go_wp2
            go_round
            case rel => exact ⟨pairZ o t, v, s + z, f1, hv, by omega, rfl, rfl, by go_num, HREST.out, by have := HE.out.fuel; omega, pairZ_bd _ _⟩
            case measure => simp [intOf]; omega
          · have hne : ((s : Int) == (at_ : Int)) = false := by rw [beq_eq_false_iff_ne]; omega
            by_cases hvl : v < L
            · have hvz : v < zs.length := by rw [HL.out]; exact hvl
              obtain ⟨b, oo, rfl, hb, hcell⟩ := HI.out (by omega)
              have hcu := hcell v hvz
              obtain ⟨r0, r1⟩ := HD.out.at_ v hvz
              obtain ⟨r, HRR⟩ : ∃ r, Hid (nth zs v = r) := ⟨_, rfl⟩
              rw [HRR.out] at hcu r0 r1
              have hne2 : ((v : Int) == (L : Int)) = false := by rw [beq_eq_false_iff_ne]; omega
              have hui : (v : Int) < (L : Int) := by omega
              have HREST : Hid (outS pairZ at_ t (placesGo f1 (s + z) n) (pairZ o r) (zs.drop (v + 1)) = checkS pairZ n n i leaf zs) := by
                show _ = _
                rw [← HE.out.rest, placesGo_step hsn, HZ.out, drop_cons_nth zs v hvz, HRR.out]
                show _ = (if _ then _ else _)
                rw [if_neg hat]
              clear hcell hvz
              go_wp2_with fail
              refine (spair1_any _ _ _ o0 o1 r0 r1).mono ?_
              rintro e w' ⟨rfl, rfl⟩
              go_wp2_with fail
              refine (ssize_any s n _ (by omega) (by omega)).mono ?_
              rintro e w' ⟨rfl, rfl⟩
              rw [HZ.out]
              go_wp2
              go_round
              case rel => exact ⟨pairZ o r, v + 1, s + z, f1, by omega, by omega, by go_num, rfl, by go_num, HREST.out, by have := HE.out.fuel; omega, pairZ_bd _ _⟩
              case measure => simp [intOf]; omega
            · have hvL : v = L := by omega
              subst hvL
              have HRF : Hid (R = false) := by
                show _ = _
                have hno : checkS pairZ n n i leaf zs = none := by
                  rw [← HE.out.rest, placesGo_step hsn, List.drop_eq_nil_of_le (by rw [HL.out]; omega)]
                  show (if _ then _ else _) = _
                  rw [if_neg hat]
                rw [← HR.out, hno]
                rfl
              have heq : ((v : Int) == (v : Int)) = true := by simp
              go_wp2
              go_ret
              exact ⟨ret_bool HRF.out.symm, rfl⟩
        · have HOE : Hid (checkS pairZ n n i leaf zs = some (o, zs.drop v)) := by
            show _ = _
            rw [← HE.out.rest, placesGo_stop hsn]
            rfl
          by_cases hvL : v = L
          · subst hvL
            have HRF : Hid (R = (o == digest)) := by
              show _ = _
              rw [← HR.out, HOE.out, List.drop_eq_nil_of_le (by rw [HL.out]; omega), Bool.eq_iff_iff, decide_eq_true_eq, beq_iff_eq]
              exact ⟨fun h => by injection h with h; injection h, fun h => by rw [h]⟩
            have heq : ((v : Int) == (v : Int)) = true := by simp
            go_wp2
            go_ret
            exact ⟨ret_bool (by rw [HRF.out]), rfl⟩
          · have HRF : Hid (R = false) := by
              show _ = _
              rw [← HR.out, HOE.out, decide_eq_false_iff_not]
              intro h
              injection h with h
              injection h with _ h
              have := congrArg List.length h
              rw [List.length_drop, HL.out] at this
              simp at this
              omega
            have heq : ((v : Int) == (L : Int)) = false := by rw [beq_eq_false_iff_ne]; omega
            go_wp2
            go_ret
            exact ⟨ret_bool (by rw [HRF.out]), rfl⟩

theorem check_dec (digest leaf : Int) (n i : Nat) (zs : List Int) (h16 : n ≤ 16) (hi : i < n) (hin : treeIn n i leaf zs) : decide (checkS pairZ n n i leaf zs = some (digest, [])) = treeOkB digest n i leaf zs := by
  rw [Bool.eq_iff_iff, decide_eq_true_eq, treeOkB_iff]
  unfold treeOk
  rw [Int.toNat_natCast, Int.toNat_natCast]
  by_cases hl : zs.length = proofLen n i
  · rw [check_same n i leaf zs h16 hi hl]
    exact ⟨fun h => ⟨hin, hl, by injection h with h; injection h⟩, fun h => by rw [h.2.2]⟩
  · exact ⟨fun h => absurd h (check_short n i leaf zs h16 hi hl digest), fun h => absurd h.2.1 hl⟩

set_option maxHeartbeats 2000000 in
theorem stcheck_in (digest leaf : Int) (n i : Nat) (zs : List Int) (A : Option Addr) (cap : Nat) (w : World) (hI : IntsAt w w.heap.size A zs) (hmax : zs.length ≤ maxLen) (h1 : 1 ≤ n) (h16 : n ≤ 16) (hi : i < n) (hl0 : 0 ≤ leaf) (hl1 : leaf < 991) (hz : digB zs = true) :
    Calls Tryd.prog 17 #[.int .i64 digest, .int .i64 (n : Int), .int .i64 (i : Int), .int .i64 leaf, .slice A zs.length cap] w fun e w' => e = .returned (.bool (treeOkB digest n i leaf zs)) ∧ w = w' := by
  have HI := Lib.hid hI
  have HM := Lib.hid hmax
  have HZ := Lib.hid hz
  have HD := Lib.hid (digB_yes hz)
  have HR := Lib.hid (check_dec digest leaf n i zs h16 hi ⟨by omega, by omega, ⟨hl0, hl1⟩, hz⟩)
  clear hI hz hmax
  go_enter Tryd.func17, Tryd.ntmps17
  go_wp2_with fail
  refine (in_yes _ _ _ _ (by omega) (by omega)).mono ?_
  rintro e w' ⟨rfl, rfl⟩
  go_wp2_with fail
  refine (in_yes _ _ _ _ (by omega) (by omega)).mono ?_
  rintro e w' ⟨rfl, rfl⟩
  go_wp2_with fail
  refine (sdig_yes _ _ hl0 hl1).mono ?_
  rintro e w' ⟨rfl, rfl⟩
  go_wp2_with fail
  refine (sdigests_any _ _ zs _ HI.out HM.out).mono ?_
  rintro e w' ⟨rfl, rfl⟩
  rw [HZ.out]
  go_wp2_with fail
  refine (lcheck_any digest leaf n i zs _ _ _ HI.out HM.out h1 h16 hi hl0 hl1 HD.out).mono ?_
  rintro e w' ⟨rfl, rfl⟩
  rw [HR.out]
  go_wp2
  go_ret
  exact ⟨rfl, rfl⟩

set_option maxHeartbeats 2000000 in
theorem stcheck_out (digest n i leaf : Int) (zs : List Int) (A : Option Addr) (cap : Nat) (w : World) (hI : IntsAt w w.heap.size A zs) (hmax : zs.length ≤ maxLen) (hno : ¬ treeIn n i leaf zs) (hn0 : n ≤ 9223372036854775807) (hn1 : -9223372036854775808 ≤ n) :
    Calls Tryd.prog 17 #[.int .i64 digest, .int .i64 n, .int .i64 i, .int .i64 leaf, .slice A zs.length cap] w fun e w' => e = .returned (.bool false) ∧ w = w' := by
  have HI := Lib.hid hI
  have HM := Lib.hid hmax
  clear hI hmax
  by_cases h1 : 1 ≤ n ∧ n ≤ 16
  · by_cases h2 : 0 ≤ i ∧ i < n
    · by_cases h3 : 0 ≤ leaf ∧ leaf < 991
      · have HZ : Hid (digB zs = false) := by
          show _ = _
          rw [Bool.eq_false_iff]
          exact fun e => hno ⟨h1, h2, h3, e⟩
        obtain ⟨a0, a1⟩ := h1
        obtain ⟨b0, b1⟩ := h2
        obtain ⟨c0, c1⟩ := h3
        clear hno
        go_enter Tryd.func17, Tryd.ntmps17
        go_wp2_with fail
        refine (in_yes _ _ _ _ (by omega) (by omega)).mono ?_
        rintro e w' ⟨rfl, rfl⟩
        go_wp2_with fail
        refine (in_yes _ _ _ _ (by omega) (by omega)).mono ?_
        rintro e w' ⟨rfl, rfl⟩
        go_wp2_with fail
        refine (sdig_yes _ _ c0 c1).mono ?_
        rintro e w' ⟨rfl, rfl⟩
        go_wp2_with fail
        refine (sdigests_any _ _ zs _ HI.out HM.out).mono ?_
        rintro e w' ⟨rfl, rfl⟩
        rw [HZ.out]
        go_wp2
        go_ret
        exact ⟨rfl, rfl⟩
      · have H3 := Lib.hid h3
        obtain ⟨a0, a1⟩ := h1
        obtain ⟨b0, b1⟩ := h2
        clear hno h3
        go_enter Tryd.func17, Tryd.ntmps17
        go_wp2_with fail
        refine (in_yes _ _ _ _ (by omega) (by omega)).mono ?_
        rintro e w' ⟨rfl, rfl⟩
        go_wp2_with fail
        refine (in_yes _ _ _ _ (by omega) (by omega)).mono ?_
        rintro e w' ⟨rfl, rfl⟩
        go_wp2_with fail
        refine (sdig_no _ _ H3.out).mono ?_
        rintro e w' ⟨rfl, rfl⟩
        go_wp2
        go_ret
        exact ⟨rfl, rfl⟩
    · have H2 : Hid (¬ (0 ≤ i ∧ i ≤ n - 1)) := fun k => h2 ⟨k.1, by omega⟩
      obtain ⟨a0, a1⟩ := h1
      clear hno h2
      go_enter Tryd.func17, Tryd.ntmps17
      go_wp2_with fail
      refine (in_yes _ _ _ _ (by omega) (by omega)).mono ?_
      rintro e w' ⟨rfl, rfl⟩
      go_wp2_with fail
      refine (in_no _ _ _ _ H2.out).mono ?_
      rintro e w' ⟨rfl, rfl⟩
      go_wp2
      go_ret
      exact ⟨rfl, rfl⟩
  · have H1 := Lib.hid h1
    clear hno h1
    go_enter Tryd.func17, Tryd.ntmps17
    go_wp2_with fail
    refine (in_no _ _ _ _ H1.out).mono ?_
    rintro e w' ⟨rfl, rfl⟩
    go_wp2
    go_ret
    exact ⟨rfl, rfl⟩

theorem stcheck_any (digest n i leaf : Int) (zs : List Int) (A : Option Addr) (cap : Nat) (w : World) (hI : IntsAt w w.heap.size A zs) (hmax : zs.length ≤ maxLen) (hn0 : n ≤ 9223372036854775807) (hn1 : -9223372036854775808 ≤ n) :
    Calls Tryd.prog 17 #[.int .i64 digest, .int .i64 n, .int .i64 i, .int .i64 leaf, .slice A zs.length cap] w fun e w' => e = .returned (.bool (treeOkB digest n i leaf zs)) ∧ w = w' := by
  by_cases h : treeIn n i leaf zs
  · obtain ⟨h1, h2, h3, h4⟩ := h
    obtain ⟨n', rfl⟩ := Int.eq_ofNat_of_zero_le (show 0 ≤ n by omega)
    obtain ⟨i', rfl⟩ := Int.eq_ofNat_of_zero_le (show 0 ≤ i by omega)
    exact stcheck_in digest leaf n' i' zs A cap w hI hmax (by omega) (by omega) (by omega) h3.1 h3.2 h4
  · rw [treeOkB_no fun k => h k.1]
    exact stcheck_out digest n i leaf zs A cap w hI hmax h hn0 hn1

end Go.Proofs.YtlkgadgjcjpdcaaDoor
