/- The walk of FnExactWorldValid: it returns true and changes nothing that was there. Condition: the run lies in memory. -/
import Derived.Test.YtkmebilhbjcfpaaGreatBaseX
import Derived.Test.YtkmebilhbjcfpaaGreatBaseV
import Derived.Test.YtkmebilhbjcfpaaGreatSWorldV
namespace Go.Proofs.YtkmebilhbjcfpaaGreat
open Go.RowKit
set_option linter.unusedVariables false

theorem Alike.data {s b : Int} {r r' : WR} {ls : List LinkD} (h : Alike r r') : dataW s b r ls = dataW s b r' ls := by
  unfold dataW
  rw [h.f, h.a, h.q]
theorem Alike.trans {a b c : WR} (h : Alike a b) (k : Alike b c) : Alike a c := ⟨h.f.trans k.f, h.a.trans k.a, h.q.trans k.q⟩

set_option maxHeartbeats 8000000 in
set_option maxRecDepth 100000 in
theorem walkExactWorldValid (sec bad : Int) (r : WR) (ls : List LinkD) (w : World) (h : RunAt w w.heap.size r ls) {n1 n2 n3 n4 : Nat} (hn1 : r.fh.length = n1) (hn2 : ls.length = n2) (hn3 : r.ah.length = n3) (hn4 : r.qh.length = n4) :
    Calls Tryz.prog 3 #[.agg #[.int .i64 sec, .int .i64 bad, .slice r.A1 n1 r.c1, .slice r.A2 n2 r.c2, .slice r.A3 n3 r.c3, .slice r.A4 n4 r.c4]] w fun e w' => e = .returned (.bool true) ∧ Below w.heap.size w w' := by
  have CZ : Hid (∀ U, Below w.heap.size w U → _) := fun U hU => szRun_any sec bad r ls U (h.belowS hU) hn1 hn2 hn3 hn4
  have CT : Hid (SmallRun r ls → ∀ U, Below w.heap.size w U → _) := fun hsm U hU => toRun_any sec bad r ls U (h.belowS hU) hsm hn1 hn2 hn3 hn4
  have HN1 := Lib.hid hn1
  have HN2 := Lib.hid hn2
  have HN3 := Lib.hid hn3
  have HN4 := Lib.hid hn4
  clear h hn1 hn2 hn3 hn4
  obtain ⟨V0, HV0⟩ : ∃ W, Hid (w.alloc (.cells #[.int .i64 sec, .int .i64 bad, .slice r.A1 n1 r.c1, .slice r.A2 n2 r.c2, .slice r.A3 n3 r.c3, .slice r.A4 n4 r.c4] 27) = W) := ⟨_, rfl⟩
  have KA : Hid (Blk V0 w.heap.size 27 #[.int .i64 sec, .int .i64 bad, .slice r.A1 n1 r.c1, .slice r.A2 n2 r.c2, .slice r.A3 n3 r.c3, .slice r.A4 n4 r.c4]) := by rw [← HV0.out]; exact Blk.new w _ _
  have HB : Hid (Below w.heap.size w V0) := by rw [← HV0.out]; exact (Below.refl _ w).alloc (Nat.le_refl _) _
  obtain ⟨a0, a1, a2, a3, a4, a5⟩ := run_cells KA.out
  go_enter Tryz.func3, Tryz.ntmps3
  go_upto_region 1 with fail
  rw [HV0.out]
  go_wp2_with fail
  refine (CZ.out V0 HB.out).mono ?_
  rintro e w1 ⟨z, rfl, hz, hb1⟩
  have HSZ := Lib.hid hz
  have HB1 : Hid (Below w.heap.size w w1) := HB.out.trans (hb1.mono HB.out.size)
  have KA1 := Lib.hid (KA.out.below hb1 KA.out.lt)
  clear hz hb1 a0 a1 a2 a3 a4 a5
  obtain ⟨a0, a1, a2, a3, a4, a5⟩ := run_cells KA1.out
  by_cases hq : 0 ≤ z
  · have hqn : ¬ z < 0 := by omega
    have CT1 := Lib.hid (CT.out (HSZ.out hq))
    unfold CopiedW at CT1
    go_wp2_with fail
    refine (CT1.out w1 HB1.out).mono ?_
    rintro e w2 ⟨r2, rfl, hal2, ho2, hb2⟩
    have HAL2 := Lib.hid hal2
    have HO2 := Lib.hid ho2
    have HB2 : Hid (Below w.heap.size w w2) := HB1.out.trans (hb2.mono HB1.out.size)
    have KA2 := Lib.hid (KA1.out.below hb2 KA1.out.lt)
    clear hal2 ho2 hb2 a0 a1 a2 a3 a4 a5
    obtain ⟨a0, a1, a2, a3, a4, a5⟩ := run_cells KA2.out
    have CV2 := Lib.hid (sworldV_any sec bad r2 ls w2 HO2.out.at_ HN2.out (HAL2.out.fl.trans HN1.out) (HAL2.out.al.trans HN3.out) (HAL2.out.ql.trans HN4.out))
    go_wp2_with fail
    refine CV2.out.mono ?_
    rintro e w3 ⟨res1, rfl, hr1, hb3⟩
    have HR1 : Hid (res1 = true ↔ OkW (dataW sec bad r ls)) := by show _ ↔ _; rw [HAL2.out.data]; exact hr1
    have HB3 : Hid (Below w.heap.size w w3) := HB2.out.trans (hb3.mono HB2.out.size)
    have KA3 := Lib.hid (KA2.out.below hb3 KA2.out.lt)
    clear hr1 hb3 a0 a1 a2 a3 a4 a5 CV2 HO2
    obtain ⟨a0, a1, a2, a3, a4, a5⟩ := run_cells KA3.out
    go_wp2_with fail
    refine (CT1.out w3 HB3.out).mono ?_
    rintro e w4 ⟨r4, rfl, hal4, ho4, hb4⟩
    have HAL4 := Lib.hid hal4
    have HO4 := Lib.hid ho4
    have HB4 : Hid (Below w.heap.size w w4) := HB3.out.trans (hb4.mono HB3.out.size)
    have KA4 := Lib.hid (KA3.out.below hb4 KA3.out.lt)
    clear hal4 ho4 hb4 a0 a1 a2 a3 a4 a5
    obtain ⟨V, HV⟩ : ∃ U, Hid (w4.alloc (.cells #[.int .i64 sec, .int .i64 bad, .slice r4.A1 n1 r4.c1, .slice r4.A2 n2 r4.c2, .slice r4.A3 n3 r4.c3, .slice r4.A4 n4 r4.c4] 35) = U) := ⟨_, rfl⟩
    have KX : Hid (Blk V w4.heap.size 35 #[.int .i64 sec, .int .i64 bad, .slice r4.A1 n1 r4.c1, .slice r4.A2 n2 r4.c2, .slice r4.A3 n3 r4.c3, .slice r4.A4 n4 r4.c4]) := by rw [← HV.out]; exact Blk.new _ _ _
    have KAV : Hid (Blk V w.heap.size 27 #[.int .i64 sec, .int .i64 bad, .slice r.A1 n1 r.c1, .slice r.A2 n2 r.c2, .slice r.A3 n3 r.c3, .slice r.A4 n4 r.c4]) := by rw [← HV.out]; exact KA4.out.alloc _
    have HBV : Hid (Below w.heap.size w V) := by rw [← HV.out]; exact HB4.out.alloc HB4.out.size _
    have HRV : Hid (RunAt V V.heap.size r4 ls) := by rw [← HV.out]; exact HO4.out.at_.allocS _
    clear KA4 HO4
    obtain ⟨a0, a1, a2, a3, a4, a5⟩ := run_cells KAV.out
    obtain ⟨x0, x1, x2, x3, x4, x5⟩ := run_cells KX.out
    have CV4 : Hid (Calls Tryz.prog 8 #[.agg #[.int .i64 sec, .int .i64 bad, .slice r4.A1 n1 r4.c1, .slice r4.A2 n2 r4.c2, .slice r4.A3 n3 r4.c3, .slice r4.A4 n4 r4.c4]] V fun e w' => ∃ res, e = .returned (.bool res) ∧ (res = true ↔ OkW (dataW sec bad r4 ls)) ∧ Below V.heap.size V w') := by
      have := worldV_any sec bad r4 ls V HRV.out HN2.out (HAL4.out.fl.trans HN1.out) (HAL4.out.al.trans HN3.out)
      rw [HAL4.out.ql.trans HN4.out] at this
      exact this
    go_upto_region 7 with fail
    rw [HV.out]
    go_wp2_with fail
    refine CV4.out.mono ?_
    rintro e w5 ⟨res2, rfl, hr2, hb5⟩
    have HEQ : Hid (res2 = res1) := by
      show _ = _
      rw [Bool.eq_iff_iff, HR1.out, HAL4.out.data]
      exact hr2
    obtain rfl : res2 = res1 := HEQ.out
    have HB5 : Hid (Below w.heap.size w w5) := HBV.out.trans (hb5.mono HBV.out.size)
    have KX5 := Lib.hid (KX.out.below hb5 KX.out.lt)
    have KA5 := Lib.hid (KAV.out.below hb5 KAV.out.lt)
    have HR5 := Lib.hid (HRV.out.belowS hb5)
    have hzx := KX5.out.lt
    have hza := KA5.out.lt
    have hres : (res2 != res2) = false := by simp
    clear hr2 hb5 a0 a1 a2 a3 a4 a5 x0 x1 x2 x3 x4 x5 HEQ
    obtain ⟨a0, a1, a2, a3, a4, a5⟩ := run_cells KA5.out
    obtain ⟨x0, x1, x2, x3, x4, x5⟩ := run_cells KX5.out
    go_upto_region 10 with fail
    go_region_held3 (fun w' => w'.cell? ⟨w.heap.size, 0, none⟩ = some (.int .i64 sec) ∧ w'.cell? ⟨w.heap.size, 1, none⟩ = some (.int .i64 bad) ∧ w'.cell? ⟨w.heap.size, 2, none⟩ = some (.slice r.A1 n1 r.c1) ∧ w'.cell? ⟨w.heap.size, 3, none⟩ = some (.slice r.A2 n2 r.c2) ∧ w'.cell? ⟨w.heap.size, 4, none⟩ = some (.slice r.A3 n3 r.c3) ∧ w'.cell? ⟨w.heap.size, 5, none⟩ = some (.slice r.A4 n4 r.c4) ∧ w'.cell? ⟨w4.heap.size, 0, none⟩ = some (.int .i64 sec) ∧ w'.cell? ⟨w4.heap.size, 1, none⟩ = some (.int .i64 bad) ∧ w'.cell? ⟨w4.heap.size, 2, none⟩ = some (.slice r4.A1 n1 r4.c1) ∧ w'.cell? ⟨w4.heap.size, 3, none⟩ = some (.slice r4.A2 n2 r4.c2) ∧ w'.cell? ⟨w4.heap.size, 4, none⟩ = some (.slice r4.A3 n3 r4.c3) ∧ w'.cell? ⟨w4.heap.size, 5, none⟩ = some (.slice r4.A4 n4 r4.c4)) (go_keep)
      (first
        | (go_at_call 7; (with_reducible refine (CT1.out _ ?_).mono ?_); exact below_drew HB5.out; rintro e w6 ⟨r6, rfl, hal6, ho6, hb6⟩; have HB6 : Hid (Below w5.heap.size w5 w6) := below_drew_l hb6; have HAL6 := Lib.hid hal6; have HO6 := Lib.hid ho6; have HB6w : Hid (Below w.heap.size w w6) := HB5.out.trans (HB6.out.mono HB5.out.size); have HR6 := Lib.hid (HR5.out.belowS HB6.out); obtain ⟨b0, b1, b2, b3, b4, b5⟩ := run_cells (KA5.out.below HB6.out hza); obtain ⟨y0, y1, y2, y3, y4, y5⟩ := run_cells (KX5.out.below HB6.out hzx); clear hal6 ho6 hb6)
        | (go_at_call 9; have CE := eqRun_yes sec bad r4 r6 ls w6 HR6.out HO6.out.at_ (HAL4.out.symm.trans HAL6.out) (HAL4.out.fl.trans HN1.out) HN2.out (HAL4.out.al.trans HN3.out) (HAL4.out.ql.trans HN4.out); refine CE.mono ?_; rintro e w7 ⟨rfl, hb7⟩; have HB7 : Hid (Below w6.heap.size w6 w7) := hb7; have HB7w : Hid (Below w.heap.size w w7) := HB6w.out.trans (hb7.mono HB6w.out.size); obtain ⟨u0, u1, u2, u3, u4, u5⟩ := run_cells ((KA5.out.below HB6.out hza).below hb7 (Nat.lt_of_lt_of_le hza HB6.out.size)); obtain ⟨v0, v1, v2, v3, v4, v5⟩ := run_cells ((KX5.out.below HB6.out hzx).below hb7 (Nat.lt_of_lt_of_le hzx HB6.out.size)); clear hb7 CE))
    go_wp2
    go_ret
    exact ⟨rfl, HB7w.out⟩
  · have hqn : z < 0 := by omega
    go_wp2
    go_ret
    exact ⟨rfl, HB1.out⟩
end Go.Proofs.YtkmebilhbjcfpaaGreat
