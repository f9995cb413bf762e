/- Contract of DrawTreeCheck: four numbers and a list in memory of the call's own. Condition: the code's bytes lie in memory. -/
import Derived.Test.YtlkgadgjcjpdcaaDoorDrawBend
import Derived.Test.YtlkgadgjcjpdcaaDoorSpecProof
namespace Go.Proofs.YtlkgadgjcjpdcaaDoor
open Go.RowKit
set_option linter.unusedVariables false

theorem results_five {fn : Func} {t u v x y : Tmp} (h : fn.results = #[.tmp t, .tmp u, .tmp v, .tmp x, .tmp y]) (tmps : Array Value) (P : Program) (w : World) :
    (results fn tmps).run P w = .ok (.tuple #[tmps.getD t undef, tmps.getD u undef, tmps.getD v undef, tmps.getD x undef, tmps.getD y undef]) w := by simp [results, h]

def TreeDrawn (w : World) (e : Ending) (w' : World) : Prop :=
  ∃ (a b c d : Int) (X : Option Addr) (cx : Nat) (zs : List Int), e = .returned (.tuple #[.int .i64 a, .int .i64 b, .int .i64 c, .int .i64 d, .slice X zs.length cx]) ∧ zs.length ≤ 100 ∧ -100 ≤ b ∧ b ≤ 100 ∧ OwnInts w' w.heap.size X cx zs ∧ Below w.heap.size w w'

theorem proofOr_len (zs : List Int) (i : Int) : (proofOr zs i).length ≤ 6 := by
  by_cases h : leavesB zs = true ∧ 0 ≤ i ∧ i < zs.length
  · obtain ⟨k, rfl⟩ := Int.eq_ofNat_of_zero_le h.2.1
    rw [proofOr_yes h.1 (by omega), proofZ_length zs k (leavesB_yes h.1).1 (by omega)]
    exact proofLen_le (leavesB_yes h.1).1 (by omega)
  · rw [proofOr_no h]
    simp

set_option maxHeartbeats 8000000 in
set_option maxRecDepth 100000 in
theorem drawtc_any (A : Option Addr) (len cap : Nat) (w : World) (hI : In w A len cap) :
    Calls Tryd.prog 16 #[.slice A len cap] w (TreeDrawn w) := by
  have HI := Lib.hid hI
  clear hI
  go_enter Tryd.func16, Tryd.ntmps16
  go_wp2_with fail
  refine (open_any A len cap _ HI.out).mono ?_
  rintro e w1 ⟨len', cap', rfl, hR1, hb1⟩
  have HR1 := Lib.hid hR1
  have HB1 := Lib.hid hb1
  clear hR1 hb1
  obtain ⟨gr, HGR⟩ : ∃ g, Hid (w.heap.size = g) := ⟨_, rfl⟩
  have HR1' : Hid (Rd w1 w.heap.size gr A len' cap' 0) := by
    have := HR1.out
    show Rd w1 w.heap.size gr A len' cap' 0
    rw [← HGR.out]
    exact this
  have hgr : (Value.pointer (some ⟨w.heap.size, 0, none⟩)) = Value.pointer (some ⟨gr, 0, none⟩) := by rw [HGR.out]
  rw [hgr]
  clear hgr
  go_wp2_with fail
  refine (leavesdraw_any HR1'.out (by omega)).mono ?_
  rintro e w2 ⟨X, c, zs, p', rfl, hl, hp', hD⟩
  obtain ⟨b, hX⟩ := hD.some_
  subst hX
  have HW : Hid (Reading w w.heap.size gr A len' cap' w1.heap.size (some ⟨b, 0, none⟩) c zs p' w2) := ⟨hD.own, hD.rd, HB1.out.trans hD.below, hD.size, hD.far⟩
  have HC1 : Hid (zs.length ≤ c) := hD.own.le.1
  have HC2 : Hid (c ≤ maxLen) := hD.own.le.2
  clear hD
  obtain ⟨N, HNL⟩ : ∃ N, Hid (zs.length = N) := ⟨_, rfl⟩
  have hN28 : N ≤ 28 := by rw [← HNL.out]; exact hl
  rw [HNL.out]
  clear hl
  by_cases hn0 : N = 0
  · subst hn0
    go_wp2_with fail
    refine (drawdig_any HW.out.rd (by omega)).mono ?_
    rintro e W1 ⟨d1, p1, hd1, hd2, hp1, rfl, hR1, hb1, hg1⟩
    have HD1 := Lib.hid (HW.out.pick hR1 hg1)
    clear hR1 hg1 hb1
    go_wp2_with fail
    refine (pick_any 3 HD1.out.rd (by omega) (by omega) (by omega)).mono ?_
    rintro e W2 ⟨y, hy, rfl, hR2, hg2, hz2⟩
    have HD2 := Lib.hid (HD1.out.pick hR2 hg2)
    clear hR2 hg2 hz2
    go_wp2_with fail
    refine (drawdig_any HD2.out.rd (by omega)).mono ?_
    rintro e W3 ⟨d3, p3, hd31, hd32, hp3, rfl, hR3, hb3, hg3⟩
    have HD3 := Lib.hid (HD2.out.pick hR3 hg3)
    clear hR3 hg3 hb3
    go_wp2
    refine bodyPost_ret (results_five rfl _ _ _) rfl ?_
    exact ⟨_, _, _, _, _, _, [], rfl, by simp, by omega, by omega, (OwnInts.new W3).base_le HD3.out.below.size, HD3.out.below.alloc HD3.out.below.size _⟩
  · have hnb : ((N : Int) == 0) = false := by rw [beq_eq_false_iff_ne]; omega
    go_wp2_with fail
    refine (pick_any (N : Int) HW.out.rd (by omega) (by omega) (by omega)).mono ?_
    rintro e W1 ⟨x, hx, rfl, hRx, hgx, hzx⟩
    have HW1 := Lib.hid (HW.out.pick hRx hgx)
    clear hRx hgx hzx
    have hxi : (x : Int) < (N : Int) := by omega
    have hx0 : (0 : Int) ≤ (x : Int) := by omega
    have CG : Hid (Calls Tryd.prog 10 #[.slice (some ⟨b, 0, none⟩) N c, .int .i64 (x : Int)] W1 (RetInts W1 (proofOr zs (x : Int)))) := by
      have := sproof_any zs (x : Int) b 0 c W1 HW1.out.own.ints HC1.out HC2.out
      rw [HNL.out] at this
      exact this
    have hP := proofOr_len zs (x : Int)
    obtain ⟨P, HP⟩ : ∃ P, Hid (proofOr zs (x : Int) = P) := ⟨_, rfl⟩
    rw [HP.out] at CG hP
    go_wp2_with fail
    refine CG.out.mono ?_
    rintro e W2 ⟨A5, c5, rfl, hown5, hb2⟩
    have HP2 := Lib.hid hown5
    have HL2 := Lib.hid (HW1.out.own.below hb2)
    have HR2 := Lib.hid (HW1.out.rd.belowS hb2)
    have HB2 : Hid (Below w.heap.size w W2) := HW1.out.below.trans (hb2.mono HW1.out.below.size)
    have hz12 : W1.heap.size ≤ W2.heap.size := hb2.size
    clear hown5 hb2
    have CD : Hid (Calls Tryd.prog 14 #[.slice (some ⟨b, 0, none⟩) N c] W2 fun e w' => e = .returned (.int .i64 (digestOr zs)) ∧ Below W2.heap.size W2 w') := by
      have := sdigest_any zs b 0 c W2 HL2.out.ints HC1.out HC2.out
      rw [HNL.out] at this
      exact this
    go_wp2_with fail
    refine CD.out.mono ?_
    rintro e W4 ⟨rfl, hb4⟩
    have HP4 := Lib.hid (HP2.out.below hb4)
    have HL4 := Lib.hid (HL2.out.below hb4)
    have HR4 := Lib.hid (HR2.out.belowS hb4)
    have HB4 : Hid (Below w.heap.size w W4) := HB2.out.trans (hb4.mono HB2.out.size)
    have hz34 : W2.heap.size ≤ W4.heap.size := hb4.size
    clear hb4
    obtain ⟨dg, HDG⟩ : ∃ d, Hid (digestOr zs = d) := ⟨_, rfl⟩
    rw [HDG.out]
    have hgW : gr < W1.heap.size := HW1.out.rd.lt
    have HD4 : Hid (Reading w w.heap.size gr A len' cap' W1.heap.size A5 c5 P _ W4) := ⟨HP4.out, HR4.out, HB4.out, by omega, hgW⟩
    have hck : W4.cell? ⟨b, x, none⟩ = some (.int .i64 (nth zs x)) := by
      have h1 := (HL4.out.ints.lt (by rw [HNL.out]; omega)).2 x (by rw [HNL.out]; omega)
      rw [Nat.zero_add] at h1
      exact h1
    obtain ⟨v, HVV⟩ : ∃ v, Hid (nth zs x = v) := ⟨_, rfl⟩
    rw [HVV.out] at hck
    go_wp2_with fail
    refine (pick_any 10 HD4.out.rd (by omega) (by omega) (by omega)).mono ?_
    rintro e W5 ⟨t, ht, rfl, hR5, hg5, hz5⟩
    have HD5 := Lib.hid (HD4.out.pick hR5 hg5)
    clear hR5 hg5 hz5 hck
    have hbase : w.heap.size ≤ W1.heap.size := HW1.out.below.size
    by_cases t0 : t = 0
    · subst t0
      go_wp2_with fail
      refine (drawdig_any HD5.out.rd (by omega)).mono ?_
      rintro e W6 ⟨d, p6, hd1, hd2, hp6, rfl, hR6, hb6, hg6⟩
      have HD6 := Lib.hid (HD5.out.pick hR6 hg6)
      clear hR6 hg6 hb6
      go_wp2
      refine bodyPost_ret (results_five rfl _ _ _) rfl ?_
      exact ⟨_, _, _, _, A5, c5, P, rfl, by omega, by omega, by omega, HD6.out.own.base_le hbase, HD6.out.below⟩
    · have t0' : ((t : Int) == 0) = false := by rw [beq_eq_false_iff_ne]; omega
      by_cases t1 : t = 1
      · subst t1
        go_wp2_with fail
        refine (pick_any 18 HD5.out.rd (by omega) (by omega) (by omega)).mono ?_
        rintro e W6 ⟨y, hy, rfl, hR6, hg6, hz6⟩
        have HD6 := Lib.hid (HD5.out.pick hR6 hg6)
        clear hR6 hg6 hz6
        go_wp2
        refine bodyPost_ret (results_five rfl _ _ _) rfl ?_
        exact ⟨_, _, _, _, A5, c5, P, rfl, by omega, by omega, by omega, HD6.out.own.base_le hbase, HD6.out.below⟩
      · have t1' : ((t : Int) == 1) = false := by rw [beq_eq_false_iff_ne]; omega
        by_cases t2 : t = 2
        · subst t2
          go_wp2_with fail
          refine (pick_any 19 HD5.out.rd (by omega) (by omega) (by omega)).mono ?_
          rintro e W6 ⟨y, hy, rfl, hR6, hg6, hz6⟩
          have HD6 := Lib.hid (HD5.out.pick hR6 hg6)
          clear hR6 hg6 hz6
          go_wp2
          refine bodyPost_ret (results_five rfl _ _ _) rfl ?_
          exact ⟨_, _, _, _, A5, c5, P, rfl, by omega, by omega, by omega, HD6.out.own.base_le hbase, HD6.out.below⟩
        · have t2' : ((t : Int) == 2) = false := by rw [beq_eq_false_iff_ne]; omega
          by_cases t45 : t = 3 ∨ t = 4
          · rcases t45 with rfl | rfl
            · go_wp2_with fail
              refine (bend_any HD5.out.rd (by omega) A5 c5 P HD5.out.own.ints (by omega) HD5.out.own.none0).mono ?_
              rintro e W6 ⟨X6, c6, us, p6, rfl, hu6, hp6, hR6⟩
              have HU6 := Lib.hid hR6
              clear hR6
              go_wp2
              refine bodyPost_ret (results_five rfl _ _ _) rfl ?_
              exact ⟨_, _, _, _, X6, c6, us, rfl, by omega, by omega, by omega, HU6.out.own.base_le (Nat.le_trans hbase HD5.out.size), HD5.out.below.trans HU6.out.below⟩
            · go_wp2_with fail
              refine (bend_any HD5.out.rd (by omega) A5 c5 P HD5.out.own.ints (by omega) HD5.out.own.none0).mono ?_
              rintro e W6 ⟨X6, c6, us, p6, rfl, hu6, hp6, hR6⟩
              have HU6 := Lib.hid hR6
              clear hR6
              go_wp2
              refine bodyPost_ret (results_five rfl _ _ _) rfl ?_
              exact ⟨_, _, _, _, X6, c6, us, rfl, by omega, by omega, by omega, HU6.out.own.base_le (Nat.le_trans hbase HD5.out.size), HD5.out.below.trans HU6.out.below⟩
          · have t3' : ((t : Int) == 3) = false := by rw [beq_eq_false_iff_ne]; omega
            have t4' : ((t : Int) == 4) = false := by rw [beq_eq_false_iff_ne]; omega
            by_cases t5 : t = 5
            · subst t5
              go_wp2_with fail
              refine (drawdig_any HD5.out.rd (by omega)).mono ?_
              rintro e W6 ⟨d, p6, hd1, hd2, hp6, rfl, hR6, hb6, hg6⟩
              have HD6 := Lib.hid (HD5.out.pick hR6 hg6)
              clear hR6 hg6 hb6
              go_wp2
              refine bodyPost_ret (results_five rfl _ _ _) rfl ?_
              exact ⟨_, _, _, _, A5, c5, P, rfl, by omega, by omega, by omega, HD6.out.own.base_le hbase, HD6.out.below⟩
            · have t5' : ((t : Int) == 5) = false := by rw [beq_eq_false_iff_ne]; omega
              go_wp2
              refine bodyPost_ret (results_five rfl _ _ _) rfl ?_
              exact ⟨_, _, _, _, A5, c5, P, rfl, by omega, by omega, by omega, HD5.out.own.base_le hbase, HD5.out.below⟩

end Go.Proofs.YtlkgadgjcjpdcaaDoor
