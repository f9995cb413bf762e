/- Contract of DrawTreeGrowthCheck: four numbers and a list in memory of the call's own. Condition: the code's bytes lie in memory. -/
import Derived.Test.YtajiciapiopjcaaDrawBend
import Derived.Test.YtajiciapiopjcaaGrowth
namespace Go.Proofs.Ytajiciapiopjcaa
open Go.RowKit
set_option linter.unusedVariables false

theorem results_tmp5 {fn : Func} {t u v x y : Tmp} (h : fn.results = #[.tmp t, .tmp u, .tmp v, .tmp x, .tmp y]) (tmps : Array Value) (P : Program) (w : World) :
    (results fn tmps).run P w = .ok (.tuple #[tmps.getD t undef, tmps.getD u undef, tmps.getD v undef, tmps.getD x undef, tmps.getD y undef]) w := by simp [results, h]

def FiveDrawn (w : World) (e : Ending) (w' : World) : Prop :=
  ∃ (a b c d : Int) (X : Option Addr) (cx : Nat) (zs : List Int), e = .returned (.tuple #[.int .i64 a, .int .i64 b, .int .i64 c, .int .i64 d, .slice X zs.length cx]) ∧ zs.length ≤ 100 ∧ OwnInts w' w.heap.size X cx zs ∧ Below w.heap.size w w'

set_option maxHeartbeats 8000000 in
set_option maxRecDepth 100000 in
theorem drawgc_any (A : Option Addr) (len cap : Nat) (w : World) (hI : In w A len cap) :
    Calls Try.prog 20 #[.slice A len cap] w (FiveDrawn w) := by
  have HI := Lib.hid hI
  clear hI
  go_enter Try.func20, Try.ntmps20
  go_wp2_with fail
  refine (open_any A len cap _ HI.out).mono ?_
  rintro e w1 ⟨len', cap', rfl, hR1, hb1⟩
  have HR1 := Lib.hid hR1
  have HB1 := Lib.hid hb1
  clear hR1 hb1
  obtain ⟨gr, HGR⟩ : ∃ g, Hid (w.heap.size = g) := ⟨_, rfl⟩
  have HR1' : Hid (Rd w1 w.heap.size gr A len' cap' 0) := by
    have := HR1.out
    show Rd w1 w.heap.size gr A len' cap' 0
    rw [← HGR.out]
    exact this
  have hgr : (Value.pointer (some ⟨w.heap.size, 0, none⟩)) = Value.pointer (some ⟨gr, 0, none⟩) := by rw [HGR.out]
  rw [hgr]
  clear hgr
  go_wp2_with fail
  refine (leavesdraw_any HR1'.out (by omega)).mono ?_
  rintro e w2 ⟨X, c, zs, p', rfl, hl, hp', hD⟩
  obtain ⟨b, hX⟩ := hD.some_
  subst hX
  have HRW : Hid (Reading w w.heap.size gr A len' cap' w1.heap.size (some ⟨b, 0, none⟩) c zs p' w2) := ⟨hD.own, hD.rd, HB1.out.trans hD.below, hD.size, hD.far⟩
  have HLM : Hid (zs.length ≤ maxLen) := Nat.le_trans hD.own.le.1 hD.own.le.2
  clear hD
  go_wp2_with fail
  refine (sdigs_any _ _ zs _ HRW.out.own.ints HLM.out).mono ?_
  rintro e w' ⟨rfl, rfl⟩
  cases hv : leavesB zs with
  | true =>
    have HV := Lib.hid hv
    clear hv hl
    obtain ⟨ls, HLS⟩ : ∃ l, Hid (zs = l) := ⟨_, rfl⟩
    have HW := HRW
    rw [HLS.out] at HW HV ⊢
    obtain ⟨bl, HBL⟩ : ∃ x, Hid (b = x) := ⟨_, rfl⟩
    obtain ⟨cl, HCL⟩ : ∃ x, Hid (c = x) := ⟨_, rfl⟩
    rw [HBL.out, HCL.out] at HW ⊢
    clear HRW HLM HLS HBL HCL
    obtain ⟨N, HNL⟩ : ∃ N, Hid (ls.length = N) := ⟨_, rfl⟩
    have hN16 : N ≤ 16 := by rw [← HNL.out]; exact (leavesB_yes HV.out).1
    have HC1 : Hid (ls.length ≤ cl) := HW.out.own.le.1
    have HC2 : Hid (cl ≤ maxLen) := HW.out.own.le.2
    have hcl1 : N ≤ cl := by rw [← HNL.out]; exact HC1.out
    have hcl2 := HC2.out
    unfold maxLen at hcl2
    rw [HNL.out]
    go_wp2_with fail
    refine (pick_any ((N : Int) + 1) HW.out.rd (by omega) (by omega) (by omega)).mono ?_
    rintro e W1 ⟨x, hx, rfl, hRx, hgx, hzx⟩
    have HW1 := Lib.hid (HW.out.pick hRx hgx)
    clear hRx hgx hzx
    have hxi : (x : Int) ≤ (cl : Int) := by omega
    have hxi2 : (x : Int) ≤ (N : Int) := by omega
    have hltx : (ls.take x).length = x := by rw [List.length_take, HNL.out]; omega
    have CD1 : Hid (Calls Try.prog 18 #[.slice (some ⟨bl, 0, none⟩) x cl] W1 fun e w' => e = .returned (.int .i64 (digestOr (ls.take x))) ∧ Below W1.heap.size W1 w') := by
      have := sdigest_any (ls.take x) bl 0 cl W1 (HW1.out.own.ints.first x) (by omega) HC2.out
      rw [hltx] at this
      exact this
    clear hltx
    go_wp2_with fail
    refine CD1.out.mono ?_
    rintro e W2 ⟨rfl, hb2⟩
    have HL2 := Lib.hid (HW1.out.own.below hb2)
    have HR2 := Lib.hid (HW1.out.rd.belowS hb2)
    have HB2 : Hid (Below w.heap.size w W2) := HW1.out.below.trans (hb2.mono HW1.out.below.size)
    clear hb2
    obtain ⟨old, HOLD⟩ : ∃ d, Hid (digestOr (ls.take x) = d) := ⟨_, rfl⟩
    rw [HOLD.out]
    have CG : Hid (Calls Try.prog 14 #[.slice (some ⟨bl, 0, none⟩) N cl, .int .i64 (x : Int)] W2 (RetInts W2 (growthOr ls (x : Int)))) := by
      have := sgrowth_any ls (x : Int) bl 0 cl W2 HL2.out.ints HC1.out HC2.out
      rw [HNL.out] at this
      exact this
    obtain ⟨P, HP⟩ : ∃ P, Hid (growthOr ls (x : Int) = P) := ⟨_, rfl⟩
    rw [HP.out] at CG
    have hP : P.length ≤ 34 := by
      rw [← HP.out, growthOr_yes HV.out (by rw [HNL.out]; omega)]
      unfold growthZ growthG
      have h1 := cover_short (ls.take x) 0
      have h2 := cover_short ls x
      unfold coverZ at h1 h2
      rw [List.length_append]
      omega
    go_wp2_with fail
    refine CG.out.mono ?_
    rintro e W3 ⟨A5, c5, rfl, hown5, hb3⟩
    have HP3 := Lib.hid hown5
    have HL3 := Lib.hid (HL2.out.below hb3)
    have HR3 := Lib.hid (HR2.out.belowS hb3)
    have HB3 : Hid (Below w.heap.size w W3) := HB2.out.trans (hb3.mono HB2.out.size)
    have hz23 : W2.heap.size ≤ W3.heap.size := hb3.size
    clear hown5 hb3
    have CD2 : Hid (Calls Try.prog 18 #[.slice (some ⟨bl, 0, none⟩) N cl] W3 fun e w' => e = .returned (.int .i64 (digestOr ls)) ∧ Below W3.heap.size W3 w') := by
      have := sdigest_any ls bl 0 cl W3 HL3.out.ints HC1.out HC2.out
      rw [HNL.out] at this
      exact this
    go_wp2_with fail
    refine CD2.out.mono ?_
    rintro e W4 ⟨rfl, hb4⟩
    have HP4 := Lib.hid (HP3.out.below hb4)
    have HR4 := Lib.hid (HR3.out.belowS hb4)
    have HB4 : Hid (Below w.heap.size w W4) := HB3.out.trans (hb4.mono HB3.out.size)
    have hz34 : W3.heap.size ≤ W4.heap.size := hb4.size
    clear hb4
    obtain ⟨dg, HDG⟩ : ∃ d, Hid (digestOr ls = d) := ⟨_, rfl⟩
    rw [HDG.out]
    have hgW : gr < W2.heap.size := HR2.out.lt
    have HD4 : Hid (Reading w w.heap.size gr A len' cap' W2.heap.size A5 c5 P _ W4) := ⟨HP4.out, HR4.out, HB4.out, by omega, hgW⟩
    go_wp2_with fail
    refine (pick_any 10 HD4.out.rd (by omega) (by omega) (by omega)).mono ?_
    rintro e W5 ⟨t, ht, rfl, hR5, hg5, hz5⟩
    have HD5 := Lib.hid (HD4.out.pick hR5 hg5)
    clear hR5 hg5 hz5
    have hbase : w.heap.size ≤ W2.heap.size := HB2.out.size
    by_cases t0 : t = 0
    · subst t0
      go_wp2_with fail
      refine (drawdig_any HD5.out.rd (by omega)).mono ?_
      rintro e W6 ⟨d, p6, hd1, hd2, hp6, rfl, hR6, hb6, hg6⟩
      have HD6 := Lib.hid (HD5.out.pick hR6 hg6)
      clear hR6 hg6 hb6
      go_wp2
      refine bodyPost_ret (results_tmp5 rfl _ _ _) rfl ?_
      exact ⟨_, _, _, _, A5, c5, P, rfl, by omega, HD6.out.own.base_le hbase, HD6.out.below⟩
    · have t0' : ((t : Int) == 0) = false := by rw [beq_eq_false_iff_ne]; omega
      by_cases t1 : t = 1
      · subst t1
        go_wp2_with fail
        refine (drawdig_any HD5.out.rd (by omega)).mono ?_
        rintro e W6 ⟨d, p6, hd1, hd2, hp6, rfl, hR6, hb6, hg6⟩
        have HD6 := Lib.hid (HD5.out.pick hR6 hg6)
        clear hR6 hg6 hb6
        go_wp2
        refine bodyPost_ret (results_tmp5 rfl _ _ _) rfl ?_
        exact ⟨_, _, _, _, A5, c5, P, rfl, by omega, HD6.out.own.base_le hbase, HD6.out.below⟩
      · have t1' : ((t : Int) == 1) = false := by rw [beq_eq_false_iff_ne]; omega
        by_cases t2 : t = 2
        · subst t2
          go_wp2_with fail
          refine (pick_any 18 HD5.out.rd (by omega) (by omega) (by omega)).mono ?_
          rintro e W6 ⟨y, hy, rfl, hR6, hg6, hz6⟩
          have HD6 := Lib.hid (HD5.out.pick hR6 hg6)
          clear hR6 hg6 hz6
          go_wp2
          refine bodyPost_ret (results_tmp5 rfl _ _ _) rfl ?_
          exact ⟨_, _, _, _, A5, c5, P, rfl, by omega, HD6.out.own.base_le hbase, HD6.out.below⟩
        · have t2' : ((t : Int) == 2) = false := by rw [beq_eq_false_iff_ne]; omega
          by_cases t3 : t = 3
          · subst t3
            go_wp2_with fail
            refine (pick_any 19 HD5.out.rd (by omega) (by omega) (by omega)).mono ?_
            rintro e W6 ⟨y, hy, rfl, hR6, hg6, hz6⟩
            have HD6 := Lib.hid (HD5.out.pick hR6 hg6)
            clear hR6 hg6 hz6
            go_wp2
            refine bodyPost_ret (results_tmp5 rfl _ _ _) rfl ?_
            exact ⟨_, _, _, _, A5, c5, P, rfl, by omega, HD6.out.own.base_le hbase, HD6.out.below⟩
          · have t3' : ((t : Int) == 3) = false := by rw [beq_eq_false_iff_ne]; omega
            by_cases t45 : t = 4 ∨ t = 5
            · rcases t45 with rfl | rfl
              · go_wp2_with fail
                refine (bend_any HD5.out.rd (by omega) A5 c5 P HD5.out.own.ints (by omega) HD5.out.own.none0).mono ?_
                rintro e W6 ⟨X6, c6, us, p6, rfl, hu6, hp6, hR6⟩
                have HU6 := Lib.hid hR6
                clear hR6
                go_wp2
                refine bodyPost_ret (results_tmp5 rfl _ _ _) rfl ?_
                exact ⟨_, _, _, _, X6, c6, us, rfl, by omega, HU6.out.own.base_le (Nat.le_trans hbase HD5.out.size), HD5.out.below.trans HU6.out.below⟩
              · go_wp2_with fail
                refine (bend_any HD5.out.rd (by omega) A5 c5 P HD5.out.own.ints (by omega) HD5.out.own.none0).mono ?_
                rintro e W6 ⟨X6, c6, us, p6, rfl, hu6, hp6, hR6⟩
                have HU6 := Lib.hid hR6
                clear hR6
                go_wp2
                refine bodyPost_ret (results_tmp5 rfl _ _ _) rfl ?_
                exact ⟨_, _, _, _, X6, c6, us, rfl, by omega, HU6.out.own.base_le (Nat.le_trans hbase HD5.out.size), HD5.out.below.trans HU6.out.below⟩
            · have t4' : ((t : Int) == 4) = false := by rw [beq_eq_false_iff_ne]; omega
              have t5' : ((t : Int) == 5) = false := by rw [beq_eq_false_iff_ne]; omega
              go_wp2
              refine bodyPost_ret (results_tmp5 rfl _ _ _) rfl ?_
              exact ⟨_, _, _, _, A5, c5, P, rfl, by omega, HD5.out.own.base_le hbase, HD5.out.below⟩
  | false =>
    have HV0 := Lib.hid hv
    clear hv hl
    have HV : Hid (leavesB [1, 2, 3] = true) := by show _ = _; decide
    have HW : Hid (Reading w w.heap.size gr A len' cap' w1.heap.size (some ⟨w2.heap.size, 0, none⟩) 3 [1, 2, 3] p' (w2.alloc (.cells #[.int .i64 1, .int .i64 2, .int .i64 3] 3))) := by
      have hD := HRW.out
      have ho := World.ownsRow_lit (e := 3) (size := 1) w2 #[.int .i64 1, .int .i64 2, .int .i64 3] 3 (Nat.le_refl w2.heap.size) (by simp [maxLen]) (by simp)
      have ho' : OwnInts (w2.alloc (.cells #[.int .i64 1, .int .i64 2, .int .i64 3] 3)) w2.heap.size (some ⟨w2.heap.size, 0, none⟩) 3 [1, 2, 3] := ho
      exact ⟨ho'.base_le hD.size, hD.rd.alloc _, hD.below.alloc hD.below.size _, by have := hD.size; simp; omega, hD.far⟩
    go_wp2_with fail
    obtain ⟨W0, HW0⟩ : ∃ W, Hid (w2.alloc (.cells #[.int .i64 1, .int .i64 2, .int .i64 3] 3) = W) := ⟨_, rfl⟩
    rw [HW0.out] at HW ⊢
    obtain ⟨bl, HBL⟩ : ∃ x, Hid (w2.heap.size = x) := ⟨_, rfl⟩
    rw [HBL.out] at HW ⊢
    obtain ⟨ls, HLS⟩ : ∃ l : List Int, Hid ([1, 2, 3] = l) := ⟨_, rfl⟩
    rw [HLS.out] at HW HV
    obtain ⟨cl, HCL⟩ : ∃ x : Nat, Hid (3 = x) := ⟨_, rfl⟩
    have HW' : Hid (Reading w w.heap.size gr A len' cap' w1.heap.size (some ⟨bl, 0, none⟩) 3 ls p' W0) := HW
    have HNL : Hid (ls.length = 3) := by show _ = _; rw [← HLS.out]; rfl
    have HC1 : Hid (ls.length ≤ 3) := HW.out.own.le.1
    have HC2 : Hid (3 ≤ maxLen) := HW.out.own.le.2
    have h31 : 3 ≤ 3 := by have := HC1.out; rw [HNL.out] at this; exact this
    have h32 := HC2.out
    unfold maxLen at h32
    refine (pick_any 4 HW.out.rd (by omega) (by omega) (by omega)).mono ?_
    rintro e W1 ⟨x, hx, rfl, hRx, hgx, hzx⟩
    have HW1 := Lib.hid (HW.out.pick hRx hgx)
    clear hRx hgx hzx
    have hxi : (x : Int) ≤ (3 : Int) := by omega
    have hxi2 : (x : Int) ≤ 3 := by omega
    have hltx : (ls.take x).length = x := by rw [List.length_take, HNL.out]; omega
    have CD1 : Hid (Calls Try.prog 18 #[.slice (some ⟨bl, 0, none⟩) x 3] W1 fun e w' => e = .returned (.int .i64 (digestOr (ls.take x))) ∧ Below W1.heap.size W1 w') := by
      have := sdigest_any (ls.take x) bl 0 3 W1 (HW1.out.own.ints.first x) (by omega) HC2.out
      rw [hltx] at this
      exact this
    clear hltx
    go_wp2_with fail
    refine CD1.out.mono ?_
    rintro e W2 ⟨rfl, hb2⟩
    have HL2 := Lib.hid (HW1.out.own.below hb2)
    have HR2 := Lib.hid (HW1.out.rd.belowS hb2)
    have HB2 : Hid (Below w.heap.size w W2) := HW1.out.below.trans (hb2.mono HW1.out.below.size)
    clear hb2
    obtain ⟨old, HOLD⟩ : ∃ d, Hid (digestOr (ls.take x) = d) := ⟨_, rfl⟩
    rw [HOLD.out]
    have CG : Hid (Calls Try.prog 14 #[.slice (some ⟨bl, 0, none⟩) 3 3, .int .i64 (x : Int)] W2 (RetInts W2 (growthOr ls (x : Int)))) := by
      have := sgrowth_any ls (x : Int) bl 0 3 W2 HL2.out.ints HC1.out HC2.out
      rw [HNL.out] at this
      exact this
    obtain ⟨P, HP⟩ : ∃ P, Hid (growthOr ls (x : Int) = P) := ⟨_, rfl⟩
    rw [HP.out] at CG
    have hP : P.length ≤ 34 := by
      rw [← HP.out, growthOr_yes HV.out (by rw [HNL.out]; omega)]
      unfold growthZ growthG
      have h1 := cover_short (ls.take x) 0
      have h2 := cover_short ls x
      unfold coverZ at h1 h2
      rw [List.length_append]
      omega
    go_wp2_with fail
    refine CG.out.mono ?_
    rintro e W3 ⟨A5, c5, rfl, hown5, hb3⟩
    have HP3 := Lib.hid hown5
    have HL3 := Lib.hid (HL2.out.below hb3)
    have HR3 := Lib.hid (HR2.out.belowS hb3)
    have HB3 : Hid (Below w.heap.size w W3) := HB2.out.trans (hb3.mono HB2.out.size)
    have hz23 : W2.heap.size ≤ W3.heap.size := hb3.size
    clear hown5 hb3
    have CD2 : Hid (Calls Try.prog 18 #[.slice (some ⟨bl, 0, none⟩) 3 3] W3 fun e w' => e = .returned (.int .i64 (digestOr ls)) ∧ Below W3.heap.size W3 w') := by
      have := sdigest_any ls bl 0 3 W3 HL3.out.ints HC1.out HC2.out
      rw [HNL.out] at this
      exact this
    go_wp2_with fail
    refine CD2.out.mono ?_
    rintro e W4 ⟨rfl, hb4⟩
    have HP4 := Lib.hid (HP3.out.below hb4)
    have HR4 := Lib.hid (HR3.out.belowS hb4)
    have HB4 : Hid (Below w.heap.size w W4) := HB3.out.trans (hb4.mono HB3.out.size)
    have hz34 : W3.heap.size ≤ W4.heap.size := hb4.size
    clear hb4
    obtain ⟨dg, HDG⟩ : ∃ d, Hid (digestOr ls = d) := ⟨_, rfl⟩
    rw [HDG.out]
    have hgW : gr < W2.heap.size := HR2.out.lt
    have HD4 : Hid (Reading w w.heap.size gr A len' cap' W2.heap.size A5 c5 P _ W4) := ⟨HP4.out, HR4.out, HB4.out, by omega, hgW⟩
    go_wp2_with fail
    refine (pick_any 10 HD4.out.rd (by omega) (by omega) (by omega)).mono ?_
    rintro e W5 ⟨t, ht, rfl, hR5, hg5, hz5⟩
    have HD5 := Lib.hid (HD4.out.pick hR5 hg5)
    clear hR5 hg5 hz5
    have hbase : w.heap.size ≤ W2.heap.size := HB2.out.size
    by_cases t0 : t = 0
    · subst t0
      go_wp2_with fail
      refine (drawdig_any HD5.out.rd (by omega)).mono ?_
      rintro e W6 ⟨d, p6, hd1, hd2, hp6, rfl, hR6, hb6, hg6⟩
      have HD6 := Lib.hid (HD5.out.pick hR6 hg6)
      clear hR6 hg6 hb6
      go_wp2
      refine bodyPost_ret (results_tmp5 rfl _ _ _) rfl ?_
      exact ⟨_, _, _, _, A5, c5, P, rfl, by omega, HD6.out.own.base_le hbase, HD6.out.below⟩
    · have t0' : ((t : Int) == 0) = false := by rw [beq_eq_false_iff_ne]; omega
      by_cases t1 : t = 1
      · subst t1
        go_wp2_with fail
        refine (drawdig_any HD5.out.rd (by omega)).mono ?_
        rintro e W6 ⟨d, p6, hd1, hd2, hp6, rfl, hR6, hb6, hg6⟩
        have HD6 := Lib.hid (HD5.out.pick hR6 hg6)
        clear hR6 hg6 hb6
        go_wp2
        refine bodyPost_ret (results_tmp5 rfl _ _ _) rfl ?_
        exact ⟨_, _, _, _, A5, c5, P, rfl, by omega, HD6.out.own.base_le hbase, HD6.out.below⟩
      · have t1' : ((t : Int) == 1) = false := by rw [beq_eq_false_iff_ne]; omega
        by_cases t2 : t = 2
        · subst t2
          go_wp2_with fail
          refine (pick_any 18 HD5.out.rd (by omega) (by omega) (by omega)).mono ?_
          rintro e W6 ⟨y, hy, rfl, hR6, hg6, hz6⟩
          have HD6 := Lib.hid (HD5.out.pick hR6 hg6)
          clear hR6 hg6 hz6
          go_wp2
          refine bodyPost_ret (results_tmp5 rfl _ _ _) rfl ?_
          exact ⟨_, _, _, _, A5, c5, P, rfl, by omega, HD6.out.own.base_le hbase, HD6.out.below⟩
        · have t2' : ((t : Int) == 2) = false := by rw [beq_eq_false_iff_ne]; omega
          by_cases t3 : t = 3
          · subst t3
            go_wp2_with fail
            refine (pick_any 19 HD5.out.rd (by omega) (by omega) (by omega)).mono ?_
            rintro e W6 ⟨y, hy, rfl, hR6, hg6, hz6⟩
            have HD6 := Lib.hid (HD5.out.pick hR6 hg6)
            clear hR6 hg6 hz6
            go_wp2
            refine bodyPost_ret (results_tmp5 rfl _ _ _) rfl ?_
            exact ⟨_, _, _, _, A5, c5, P, rfl, by omega, HD6.out.own.base_le hbase, HD6.out.below⟩
          · have t3' : ((t : Int) == 3) = false := by rw [beq_eq_false_iff_ne]; omega
            by_cases t45 : t = 4 ∨ t = 5
            · rcases t45 with rfl | rfl
              · go_wp2_with fail
                refine (bend_any HD5.out.rd (by omega) A5 c5 P HD5.out.own.ints (by omega) HD5.out.own.none0).mono ?_
                rintro e W6 ⟨X6, c6, us, p6, rfl, hu6, hp6, hR6⟩
                have HU6 := Lib.hid hR6
                clear hR6
                go_wp2
                refine bodyPost_ret (results_tmp5 rfl _ _ _) rfl ?_
                exact ⟨_, _, _, _, X6, c6, us, rfl, by omega, HU6.out.own.base_le (Nat.le_trans hbase HD5.out.size), HD5.out.below.trans HU6.out.below⟩
              · go_wp2_with fail
                refine (bend_any HD5.out.rd (by omega) A5 c5 P HD5.out.own.ints (by omega) HD5.out.own.none0).mono ?_
                rintro e W6 ⟨X6, c6, us, p6, rfl, hu6, hp6, hR6⟩
                have HU6 := Lib.hid hR6
                clear hR6
                go_wp2
                refine bodyPost_ret (results_tmp5 rfl _ _ _) rfl ?_
                exact ⟨_, _, _, _, X6, c6, us, rfl, by omega, HU6.out.own.base_le (Nat.le_trans hbase HD5.out.size), HD5.out.below.trans HU6.out.below⟩
            · have t4' : ((t : Int) == 4) = false := by rw [beq_eq_false_iff_ne]; omega
              have t5' : ((t : Int) == 5) = false := by rw [beq_eq_false_iff_ne]; omega
              go_wp2
              refine bodyPost_ret (results_tmp5 rfl _ _ _) rfl ?_
              exact ⟨_, _, _, _, A5, c5, P, rfl, by omega, HD5.out.own.base_le hbase, HD5.out.below⟩

end Go.Proofs.Ytajiciapiopjcaa
