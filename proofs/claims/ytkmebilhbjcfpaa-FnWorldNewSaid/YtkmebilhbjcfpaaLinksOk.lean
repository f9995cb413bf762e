/- Contract of linksValid: it answers as the data say. Condition: the run lies in memory. -/
import Derived.Test.YtkmebilhbjcfpaaRunP
import Derived.Test.YtkmebilhbjcfpaaLinkCmp
import Derived.Test.YtkmebilhbjcfpaaSRunB
import Derived.Deep.RegionHeld3
namespace Go.Proofs.Ytkmebilhbjcfpaa
open Go.RowKit
set_option linter.unusedVariables false

theorem fitK_eq (m : Nat) (ls : List LinkD) (k : Nat) {va vb : Int} (e : kth2 ls k = ⟨va, vb⟩) : fitK m ls k = (inR m va && (inR m vb && (decide (va < vb) && (decide (k = 0) || decide (ltK (kth2 ls (k - 1)) ⟨va, vb⟩))))) := by
  rw [Bool.eq_iff_iff, fitK_iff, e]
  simp only [Bool.and_eq_true, inR_iff, decide_eq_true_eq, Bool.or_eq_true]
  constructor
  · rintro ⟨⟨a, b, c⟩, d⟩
    exact ⟨⟨a, by omega⟩, ⟨by omega, c⟩, b, d⟩
  · rintro ⟨⟨a, b⟩, ⟨c, d⟩, f, g⟩
    exact ⟨⟨a, f, d⟩, g⟩

set_option maxHeartbeats 6000000 in
set_option maxRecDepth 100000 in
theorem links_any (sec bad : Int) (r : WR) (ls : List LinkD) (w : World) (h : RunAt w w.heap.size r ls) {n m : Nat} (hn : ls.length = n) (hm : r.fh.length = m) :
    Calls Try.prog 29 #[.agg #[.int .i64 sec, .int .i64 bad, .slice r.A1 m r.c1, .slice r.A2 n r.c2, .slice r.A3 r.ah.length r.c3, .slice r.A4 r.qh.length r.c4]] w fun e w' => e = .returned (.bool (linksB m ls)) ∧ Below w.heap.size w w' := by
  have hm2 := h.m2
  have hm1 := h.m1
  unfold maxLen at hm2 hm1
  rw [hn] at hm2
  rw [hm] at hm1
  obtain ⟨W, HW⟩ : ∃ W, Hid (w.alloc (.cells #[.int .i64 sec, .int .i64 bad, .slice r.A1 m r.c1, .slice r.A2 n r.c2, .slice r.A3 r.ah.length r.c3, .slice r.A4 r.qh.length r.c4] 30) = W) := ⟨_, rfl⟩
  have KA : Hid (Blk W w.heap.size 30 #[.int .i64 sec, .int .i64 bad, .slice r.A1 m r.c1, .slice r.A2 n r.c2, .slice r.A3 r.ah.length r.c3, .slice r.A4 r.qh.length r.c4]) := by rw [← HW.out]; exact Blk.new w _ _
  have HB : Hid (Below w.heap.size w W) := by rw [← HW.out]; exact (Below.refl _ w).alloc (Nat.le_refl _) _
  have HR := Lib.hid (h.r2.belowS HB.out)
  have HN := Lib.hid hn
  have hbzW : w.heap.size < W.heap.size := KA.out.lt
  have k3 := (run_cells KA.out).2.2.2.1
  clear h hn hm
  have C1 : Hid (∀ (p : Int) (U : World), Calls Try.prog 53 #[.agg #[.int .i64 sec, .int .i64 bad, .slice r.A1 m r.c1, .slice r.A2 n r.c2, .slice r.A3 r.ah.length r.c3, .slice r.A4 r.qh.length r.c4], .int .i64 p] U fun e w' => e = .returned (.bool (inR m p)) ∧ Below U.heap.size U w') := fun p U => inRun_any sec bad r m n p U
  obtain ⟨res, HRES⟩ : ∃ x, Hid (linksB m ls = x) := ⟨_, rfl⟩
  rw [HRES.out]
  obtain ⟨A2, HA2⟩ : ∃ x, Hid (r.A2 = x) := ⟨_, rfl⟩
  rw [HA2.out] at k3 KA HR C1 HW ⊢
  obtain ⟨A1, HA1⟩ : ∃ x, Hid (r.A1 = x) := ⟨_, rfl⟩
  rw [HA1.out] at KA C1 HW ⊢
  go_enter Try.func29, Try.ntmps29
  go_upto_region 1 with fail
  rw [HW.out]
  go_wp2
  go_loopw [8] (fun i wr => ∃ k : Nat, k ≤ n ∧ i = .int .i64 (k : Int) ∧ Hid (Below W.heap.size W wr) ∧ Hid (∀ j, j < k → fitK m ls j = true)) (fun i _ => n - (intOf i).toNat)
  case atStart => exact ⟨0, Nat.zero_le _, rfl, Below.refl _ _, fun j hj => absurd hj (Nat.not_lt_zero _)⟩
  case round =>
    obtain ⟨k, hk, rfl, HBr, HC⟩ := hrel
    have HB0 : Hid (Below w.heap.size w wr) := HB.out.trans (HBr.out.mono (by omega))
    by_cases hkn : k < n
    · have hkz : k < ls.length := by rw [HN.out]; exact hkn
      have HRr := Lib.hid (HR.out.belowS HBr.out)
      obtain ⟨c, o, rfl⟩ := HRr.out.some_ (by omega)
      obtain ⟨c0, c1⟩ := link_cells2 HRr.out k hkz
      obtain ⟨p0, p1⟩ := link_cells2 HRr.out (k - 1) (by omega)
      have hcl : c < wr.heap.size := (HRr.out.lt (by omega)).1
      obtain ⟨va, HVA⟩ : ∃ x, Hid ((kth2 ls k).a = x) := ⟨_, rfl⟩
      obtain ⟨vb, HVB⟩ : ∃ x, Hid ((kth2 ls k).b = x) := ⟨_, rfl⟩
      obtain ⟨pa, HPA⟩ : ∃ x, Hid ((kth2 ls (k - 1)).a = x) := ⟨_, rfl⟩
      obtain ⟨pb, HPB⟩ : ∃ x, Hid ((kth2 ls (k - 1)).b = x) := ⟨_, rfl⟩
      obtain ⟨q, HQ⟩ : ∃ x, Hid (k - 1 = x) := ⟨_, rfl⟩
      rw [HVA.out] at c0
      rw [HVB.out] at c1
      rw [HPA.out, HQ.out] at p0
      rw [HPB.out, HQ.out] at p1
      have hk0 : (0 : Int) ≤ (k : Int) := by omega
      have hki : (k : Int) < (n : Int) := by omega
      have HFI : Hid (fitK m ls k = (inR m va && (inR m vb && (decide (va < vb) && (decide (k = 0) || decide (ltK ⟨pa, pb⟩ ⟨va, vb⟩)))))) := by
        have e1 : kth2 ls k = ⟨va, vb⟩ := LinkD.same HVA.out HVB.out
        have e2 : kth2 ls (k - 1) = ⟨pa, pb⟩ := LinkD.same HPA.out HPB.out
        show _ = _
        rw [fitK_eq m ls k e1, e2]
      have HNO : Hid (fitK m ls k = false → res = false) := fun e => HRES.out.symm.trans (linksB_no hkz e)
      have HS : Hid (fitK m ls k = true → ∀ j, j < k + 1 → fitK m ls j = true) := fun e j hj => by
        rcases Nat.lt_or_ge j k with h | h
        · exact HC.out j h
        · have : j = k := by omega
          subst this; exact e
      obtain ⟨V, HV⟩ : ∃ V, Hid (wr.alloc (.cells #[.int .i64 va, .int .i64 vb] 55) = V) := ⟨_, rfl⟩
      have KL : Hid (Blk V wr.heap.size 55 #[.int .i64 va, .int .i64 vb]) := by rw [← HV.out]; exact Blk.new wr _ _
      have HBV : Hid (Below wr.heap.size wr V) := by rw [← HV.out]; exact (Below.refl _ wr).alloc (Nat.le_refl _) _
      have HBVw : Hid (Below W.heap.size W V) := HBr.out.trans (HBV.out.mono HBr.out.size)
      have HB1 : Hid (Below w.heap.size w V) := HB.out.trans (HBVw.out.mono (by omega))
      have l0 := KL.out.cell 0
      have l1 := KL.out.cell 1
      have KAv : Hid (Blk V w.heap.size 30 _) := KA.out.below HBVw.out hbzW
      obtain ⟨v0, v1, v2, v3, v4, v5⟩ := run_cells KAv.out
      have d0 := (HBV.out.cell (p := ⟨c, o + q * 2, none⟩) hcl).trans p0
      have d1 := (HBV.out.cell (p := ⟨c, o + q * 2 + 1, none⟩) hcl).trans p1
      have hwr : wr.heap.size < V.heap.size := KL.out.lt
      have hwv : w.heap.size < V.heap.size := KAv.out.lt
      have hcv : c < V.heap.size := by omega
      clear hkz p0 p1
      go_upto_region 4 with fail
      rw [HV.out]
      cases h1 : inR m va with
      | false =>
        rw [h1] at HFI
        have HF : Hid (res = false) := HNO.out (by rw [HFI.out]; rfl)
        have C1a := Lib.hid (C1.out va V)
        rw [h1] at C1a
        clear h1
        go_wp2_with fail
        refine C1a.out.mono ?_
        rintro e w2 ⟨rfl, hb2⟩
        have HB2 : Hid (Below w.heap.size w w2) := HB1.out.trans (hb2.mono (by omega))
        clear hb2
        go_wp2
        go_ret
        exact ⟨ret_bool HF.out.symm, HB2.out⟩
      | true =>
        rw [h1] at HFI
        have C1a := Lib.hid (C1.out va V)
        rw [h1] at C1a
        clear h1
        go_wp2_with fail
        refine C1a.out.mono ?_
        rintro e w2 ⟨rfl, hb2⟩
        have HB2 : Hid (Below w.heap.size w w2) := HB1.out.trans (hb2.mono (by omega))
        have KL2 := Lib.hid (KL.out.below hb2 hwr)
        have KA2 := Lib.hid (KAv.out.below hb2 hwv)
        have HBW2 : Hid (Below W.heap.size W w2) := HBVw.out.trans (hb2.mono (by have := HBVw.out.size; omega))
        have d0 := (hb2.cell (p := ⟨c, o + q * 2, none⟩) hcv).trans d0
        have d1 := (hb2.cell (p := ⟨c, o + q * 2 + 1, none⟩) hcv).trans d1
        have hz2 : V.heap.size ≤ w2.heap.size := hb2.size
        clear hb2 l0 l1 v0 v1 v2 v3 v4 v5 C1a
        have l0 := KL2.out.cell 0
        have l1 := KL2.out.cell 1
        obtain ⟨v0, v1, v2, v3, v4, v5⟩ := run_cells KA2.out
        have C1b := Lib.hid (C1.out vb w2)
        cases h2 : inR m vb with
        | false =>
          rw [h2] at HFI C1b
          have HF : Hid (res = false) := HNO.out (by rw [HFI.out]; rfl)
          clear h2
          go_wp2_with fail
          refine C1b.out.mono ?_
          rintro e w3 ⟨rfl, hb3⟩
          have HB3 : Hid (Below w.heap.size w w3) := HB2.out.trans (hb3.mono (by omega))
          clear hb3
          go_wp2
          go_ret
          exact ⟨ret_bool HF.out.symm, HB3.out⟩
        | true =>
          rw [h2] at HFI C1b
          clear h2
          go_wp2_with fail
          refine C1b.out.mono ?_
          rintro e w3 ⟨rfl, hb3⟩
          have HB3 : Hid (Below w.heap.size w w3) := HB2.out.trans (hb3.mono (by omega))
          have KL3 := Lib.hid (KL2.out.below hb3 (by omega))
          have KA3 := Lib.hid (KA2.out.below hb3 (by omega))
          have HBW3 : Hid (Below W.heap.size W w3) := HBW2.out.trans (hb3.mono (by have := HBVw.out.size; omega))
          have d0 := (hb3.cell (p := ⟨c, o + q * 2, none⟩) (by show c < w2.heap.size; omega)).trans d0
          have d1 := (hb3.cell (p := ⟨c, o + q * 2 + 1, none⟩) (by show c < w2.heap.size; omega)).trans d1
          have hz3 : w2.heap.size ≤ w3.heap.size := hb3.size
          clear hb3 l0 l1 v0 v1 v2 v3 v4 v5 C1b
          have l0 := KL3.out.cell 0
          have l1 := KL3.out.cell 1
          obtain ⟨v0, v1, v2, v3, v4, v5⟩ := run_cells KA3.out
          by_cases hab : va < vb
          · have hd1 : decide (va < vb) = true := decide_eq_true hab
            have hd2 : decide (vb ≤ va) = false := decide_eq_false (by omega)
            rw [hd1] at HFI
            clear hd1 hab
            rcases Nat.eq_zero_or_pos k with hkk | hkp
            · have HS2 := Lib.hid (HS.out (by rw [HFI.out, decide_eq_true hkk]; rfl))
              have hkd : ¬ (0 : Int) < (k : Int) := by omega
              have hkd2 : decide (0 < k) = false := decide_eq_false (by omega)
              have hkd3 : decide ((0 : Int) < (k : Int)) = false := decide_eq_false hkd
              clear hkk
              go_wp2_with fail
              go_quiet (fail)
              go_wp2
              go_roundw
              case rel => exact ⟨k + 1, by omega, by go_num, below_drewN HBW3.out _, HS2.out⟩
              case measure => simp [intOf]; omega
            · have hkd : (0 : Int) < (k : Int) := by omega
              have hkd2 : decide (0 < k) = true := decide_eq_true hkp
              have hkd3 : decide ((0 : Int) < (k : Int)) = true := decide_eq_true hkd
              have hqw : IntKind.i64.wrap ((k : Int) - 1) = (q : Int) := by have hQ := HQ.out; rw [show (k : Int) - 1 = (q : Int) by omega]; exact IntWalk.i64_in _ (by omega)
              have hq0 : (0 : Int) ≤ (q : Int) := by omega
              have hqi : (q : Int) < (n : Int) := by have := HQ.out; omega
              have HZ : Hid (decide (k = 0) = false) := decide_eq_false (by omega)
              rw [HZ.out] at HFI
              clear hkp
              have CK := Lib.hid (fun U : World => cmpLinks_any ⟨pa, pb⟩ ⟨va, vb⟩ U)
              obtain ⟨z, HZK⟩ : ∃ z, Hid (cmpK ⟨pa, pb⟩ ⟨va, vb⟩ = z) := ⟨_, rfl⟩
              rw [HZK.out] at CK
              have HZN : Hid (z < 0 ↔ ltK ⟨pa, pb⟩ ⟨va, vb⟩) := by rw [← HZK.out]; exact cmpK_neg _ _
              have hwz : w.heap.size < w3.heap.size := by omega
              go_wp2_with fail
              go_region_held3 (fun w' => w'.cell? ⟨w.heap.size, 3, none⟩ = some (.slice (some ⟨c, o, none⟩) n r.c2) ∧ w'.cell? ⟨wr.heap.size, 0, none⟩ = some (.int .i64 va) ∧ w'.cell? ⟨wr.heap.size, 1, none⟩ = some (.int .i64 vb) ∧ w'.cell? ⟨c, o + q * 2, none⟩ = some (.int .i64 pa) ∧ w'.cell? ⟨c, o + q * 2 + 1, none⟩ = some (.int .i64 pb)) (go_keep)
                (first
                  | (go_at_call 54; (with_reducible refine (CK.out _).mono ?_); rintro e w4 ⟨rfl, hb4⟩; have HB4 : Hid (Below w3.heap.size w3 w4) := below_drew_l hb4; have hw4 : w3.heap.size ≤ w4.heap.size := HB4.out.size; have HB4w : Hid (Below w.heap.size w w4) := HB3.out.trans (HB4.out.mono (by omega)); have HBW4 : Hid (Below W.heap.size W w4) := HBW3.out.trans (HB4.out.mono HBW3.out.size); have u3 := (run_cells (KA3.out.below HB4.out hwz)).2.2.2.1; have t0 := (HB4.out.cell (p := ⟨wr.heap.size, 0, none⟩) (by show wr.heap.size < w3.heap.size; omega)).trans l0; have t1 := (HB4.out.cell (p := ⟨wr.heap.size, 1, none⟩) (by show wr.heap.size < w3.heap.size; omega)).trans l1; have e0 := (HB4.out.cell (p := ⟨c, o + q * 2, none⟩) (by show c < w3.heap.size; omega)).trans d0; have e1 := (HB4.out.cell (p := ⟨c, o + q * 2 + 1, none⟩) (by show c < w3.heap.size; omega)).trans d1; clear hb4))
              by_cases hz : z < 0
              · have hzd : decide (0 ≤ z) = false := decide_eq_false (by omega)
                have hzn : ¬ 0 ≤ z := by omega
                have HS2 := Lib.hid (HS.out (by rw [HFI.out, decide_eq_true (HZN.out.1 hz)]; rfl))
                go_wp2
                go_roundw
                case rel => exact ⟨k + 1, by omega, by go_num, HBW4.out, HS2.out⟩
                case measure => simp [intOf]; omega
              · have hzd : decide (0 ≤ z) = true := decide_eq_true (by omega)
                have hzn : 0 ≤ z := by omega
                have HF : Hid (res = false) := HNO.out (by rw [HFI.out, decide_eq_false (fun x => hz (HZN.out.2 x))]; rfl)
                go_wp2
                go_ret
                exact ⟨ret_bool HF.out.symm, HB4w.out⟩
          · have hd1 : decide (va < vb) = false := decide_eq_false hab
            have hd2 : decide (vb ≤ va) = true := decide_eq_true (by omega)
            rw [hd1] at HFI
            have HF : Hid (res = false) := HNO.out (by rw [HFI.out]; rfl)
            clear hd1 hab
            go_wp2
            go_ret
            exact ⟨ret_bool HF.out.symm, HB3.out⟩
    · have hke : k = n := by omega
      subst hke
      have HF : Hid (res = true) := by show _ = _; rw [← HRES.out]; exact (linksB_all m ls).2 (by rw [HN.out]; exact HC.out)
      go_wp2
      go_ret
      exact ⟨ret_bool HF.out.symm, HB0.out⟩
end Go.Proofs.Ytkmebilhbjcfpaa
