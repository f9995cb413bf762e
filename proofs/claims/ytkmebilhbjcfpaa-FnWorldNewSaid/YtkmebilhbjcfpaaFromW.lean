/- Contract of fromWriter: it answers as the data say. Conditions: the feed and the digests of the writer's blocks lie in memory, the feed's lists have one length. -/
import Derived.Test.YtkmebilhbjcfpaaRunP
import Derived.Test.YtkmebilhbjcfpaaSRunD
import Derived.Test.YtkmebilhbjcfpaaFeedValid
import Derived.Deep.RegionHeld3
namespace Go.Proofs.Ytkmebilhbjcfpaa
open Go.RowKit
set_option linter.unusedVariables false

/-- Does a feed suit the writer whose blocks are bs0? -/
def fromB (sec : Int) (bs0 : List ByteArray) (f : FD) : Bool := decide (f.l ≤ bs0.length) && (headB sec bs0 f && sameB f bs0)
theorem nth_leafT (bs : List ByteArray) (k : Nat) (h : k < bs.length) : nth (leafL bs) k = textOr (sth bs k) := by
  unfold nth sth leafL
  rw [List.getD_eq_getElem?_getD, List.getD_eq_getElem?_getD, List.getElem?_map, List.getElem?_eq_getElem h]
  rfl

set_option maxHeartbeats 8000000 in
set_option maxRecDepth 100000 in
theorem fromW_any (sec : Int) (b0 : List ByteArray) (g0 c0 : Nat) (H : FH) (w : World) (hI : IntsAt w w.heap.size (some ⟨g0, 0, none⟩) (leafL b0)) (hc0 : b0.length ≤ c0) (hc1 : c0 ≤ maxLen) (h16 : b0.length ≤ 16) (hH : FhAt w w.heap.size H)
    (hl1 : (H.f.bs.length : Int) = H.f.l) (hl2 : (H.f.hs.length : Int) = H.f.l) :
    Calls Try.prog 52 #[.int .i64 sec, .slice (some ⟨g0, 0, none⟩) b0.length c0, fhV H] w fun e w' => e = .returned (.bool (fromB sec b0 H.f)) ∧ Below w.heap.size w w' := by
  obtain ⟨⟨p, l, d, s, bs, hs1⟩, A1, c1, A2, c2⟩ := H
  dsimp only at hl1 hl2
  have hle1 := hH.le1
  have hle2 := hH.le2
  dsimp only at hle1 hle2
  unfold maxLen at hc1 hle1 hle2
  obtain ⟨k, HK1⟩ : ∃ x, Hid (bs.length = x) := ⟨_, rfl⟩
  have hnh : hs1.length = k := by rw [← HK1.out]; omega
  have HNH := Lib.hid hnh
  rw [HK1.out] at hl1 hle1
  rw [hnh] at hle2
  subst hl1
  clear hnh hl2
  have HFE := Lib.hid hH.feed
  have HI := Lib.hid hI
  obtain ⟨m, HM0⟩ : ∃ x, Hid (b0.length = x) := ⟨_, rfl⟩
  rw [HM0.out] at hc0 h16 ⊢
  obtain ⟨res, HR2⟩ : ∃ x, Hid (fromB sec b0 ⟨p, (k : Int), d, s, bs, hs1⟩ = x) := ⟨_, rfl⟩
  obtain ⟨sm, HSM⟩ : ∃ x, Hid (sameB ⟨p, (k : Int), d, s, bs, hs1⟩ b0 = x) := ⟨_, rfl⟩
  obtain ⟨hd, HHD⟩ : ∃ x, Hid (headB sec b0 ⟨p, (k : Int), d, s, bs, hs1⟩ = x) := ⟨_, rfl⟩
  have HRES : Hid (res = (decide ((k : Int) ≤ (m : Int)) && (hd && sm))) := by rw [← HR2.out, ← HSM.out, ← HHD.out, ← HM0.out]; rfl
  unfold fhV
  dsimp only
  rw [HR2.out, HK1.out, HNH.out]
  clear hH hI
  obtain ⟨V0, HV0⟩ : ∃ W, Hid (w.alloc (.cells #[.int .i64 p, .int .i64 (k : Int), .int .i64 d, .int .i64 s, .slice A1 k c1, .slice A2 k c2] 39) = W) := ⟨_, rfl⟩
  have KP : Hid (Blk V0 w.heap.size 39 #[.int .i64 p, .int .i64 (k : Int), .int .i64 d, .int .i64 s, .slice A1 k c1, .slice A2 k c2]) := by rw [← HV0.out]; exact Blk.new w _ _
  have HB : Hid (Below w.heap.size w V0) := by rw [← HV0.out]; exact (Below.refl _ w).alloc (Nat.le_refl _) _
  obtain ⟨p0, p1, p2, p3, p4, p5⟩ := run_cells KP.out
  have hz0 : w.heap.size < V0.heap.size := KP.out.lt
  go_enter Try.func52, Try.ntmps52
  go_upto_region 1 with fail
  rw [HV0.out]
  by_cases hkm : (k : Int) ≤ (m : Int)
  · have hkd : decide ((k : Int) ≤ (m : Int)) = true := decide_eq_true hkm
    have hkg : ¬ (m : Int) < (k : Int) := by omega
    rw [hkd] at HRES
    have hkc : (k : Int) ≤ (c0 : Int) := by omega
    have hk0 : (0 : Int) ≤ (k : Int) := by omega
    have HLL : Hid ((leafL (b0.take k)).length = k) := by have := HM0.out; show _ = _; rw [leafL_length, List.length_take]; omega
    have HTK : Hid (leafL (b0.take k) = (leafL b0).take k) := by show _ = _; unfold leafL; rw [List.map_take]
    obtain ⟨ml, HML⟩ : ∃ x, Hid (madeL sec (leafL (b0.take k)) = x) := ⟨_, rfl⟩
    obtain ⟨md, HMD⟩ : ∃ x, Hid (madeD sec (leafL (b0.take k)) = x) := ⟨_, rfl⟩
    obtain ⟨ms, HMS⟩ : ∃ x, Hid (madeS sec (leafL (b0.take k)) = x) := ⟨_, rfl⟩
    obtain ⟨mo, HMO⟩ : ∃ x, Hid (madeOk sec (leafL (b0.take k)) = x) := ⟨_, rfl⟩
    have CM : Hid (Calls Try.prog 81 #[.int .i64 sec, .slice (some ⟨g0, 0, none⟩) k c0] V0 fun e w' => e = .returned (.tuple #[headV ml md ms, .bool mo]) ∧ Below V0.heap.size V0 w') := by
      have hi2 := ((HI.out.belowS HB.out).first k)
      rw [← HTK.out] at hi2
      have := make_any sec (leafL (b0.take k)) g0 0 c0 V0 hi2 (by rw [HLL.out]; omega) (by unfold maxLen; omega)
      rw [HLL.out, HML.out, HMD.out, HMS.out, HMO.out] at this
      exact this
    have HHV : Hid (hd = (decide ((k : Int) = 0) || (decide ((k : Int) = ml) && (decide (d = md) && decide (s = ms))))) := by
      rw [← HHD.out, ← HML.out, ← HMD.out, ← HMS.out]
      show _ = _
      unfold headB
      simp only [Int.toNat_natCast]
    go_wp2_with fail
    refine CM.out.mono ?_
    rintro e w1 ⟨rfl, hb1⟩
    have HB1 : Hid (Below w.heap.size w w1) := HB.out.trans (hb1.mono (by omega))
    have KP1 := Lib.hid (KP.out.below hb1 hz0)
    have hz1 : w.heap.size < w1.heap.size := KP1.out.lt
    clear hb1 p0 p1 p2 p3 p4 p5 CM
    obtain ⟨W, HW⟩ : ∃ U, Hid (w1.alloc (.cells #[.int .i64 ml, .int .i64 md, .int .i64 ms] 35) = U) := ⟨_, rfl⟩
    have KG : Hid (Blk W w1.heap.size 35 #[.int .i64 ml, .int .i64 md, .int .i64 ms]) := by rw [← HW.out]; exact Blk.new _ _ _
    have KP2 : Hid (Blk W w.heap.size 39 #[.int .i64 p, .int .i64 (k : Int), .int .i64 d, .int .i64 s, .slice A1 k c1, .slice A2 k c2]) := by rw [← HW.out]; exact KP1.out.alloc _
    have HBW : Hid (Below w.heap.size w W) := by rw [← HW.out]; exact HB1.out.alloc (by omega) _
    obtain ⟨p0, p1, p2, p3, p4, p5⟩ := run_cells KP2.out
    have q0 : W.cell? ⟨w1.heap.size, 0, none⟩ = some (.int .i64 ml) := KG.out.cell 0
    have q1 : W.cell? ⟨w1.heap.size, 1, none⟩ = some (.int .i64 md) := KG.out.cell 1
    have q2 : W.cell? ⟨w1.heap.size, 2, none⟩ = some (.int .i64 ms) := KG.out.cell 2
    go_upto_region 5 with fail
    rw [HW.out]
    by_cases hkz : k = 0
    · subst hkz
      have HF : Hid (res = true) := by
        show _ = _
        rw [HRES.out, HHV.out, ← HSM.out, (sameB_iff _ _).2 (fun i hi => absurd hi (by show ¬ i < bs.length; rw [HK1.out]; omega))]
        rfl
      go_wp2
      refine wp_loop_rounds 1 ?_
      rw [rounds_succ]
      go_wp2
      go_ret
      exact ⟨ret_bool HF.out.symm, HBW.out⟩
    · have hkp : (0 : Int) < (k : Int) := by omega
      have HKZ : Hid (decide ((k : Int) = 0) = false) := decide_eq_false (by omega)
      rw [HKZ.out] at HHV
      by_cases e1 : (k : Int) = ml
      · by_cases e2 : d = md
        · by_cases e3 : s = ms
          · have HT : Hid (hd = true) := by show _ = _; rw [HHV.out, decide_eq_true e1, decide_eq_true e2, decide_eq_true e3]; rfl
            rw [HT.out] at HRES
            have HRS : Hid (res = sm) := by show _ = _; rw [HRES.out]; rfl
            subst e2 e3
            have b1 : ((k : Int) == ml) = true := beq_iff_eq.2 e1
            clear e1
            go_wp2
            go_loopw [38] (fun i wr => ∃ j : Nat, j ≤ k ∧ i = .int .i64 (j : Int) ∧ Hid (∃ q, wr = W.drewN q) ∧ Hid (∀ i, i < j → bth hs1 i = true → textOr (sth bs i) = textOr (sth b0 i))) (fun i _ => k - (intOf i).toNat)
            case atStart => exact ⟨0, Nat.zero_le _, rfl, ⟨0, rfl⟩, fun j hj => absurd hj (Nat.not_lt_zero _)⟩
            case round =>
              obtain ⟨j, hj, rfl, HQ, HC⟩ := hrel
              have HQN : Hid (∀ x, ∃ q, wr.drewN x = W.drewN q) := fun x => by obtain ⟨q, e⟩ := HQ.out; subst e; exact ⟨q + x, World.drewN_drewN _ _ _⟩
              have HBr : Hid (Below w.heap.size w wr) := by obtain ⟨q, e⟩ := HQ.out; subst e; exact below_drewN HBW.out q
              have CEL : Hid (∀ x : Addr, wr.cell? x = W.cell? x) := fun x => by obtain ⟨q, e⟩ := HQ.out; subst e; rfl
              have z5 := (CEL.out ⟨w.heap.size, 5, none⟩).trans p5
              have hj0 : (0 : Int) ≤ (j : Int) := by omega
              by_cases hjk : j < k
              · have hji : (j : Int) < (k : Int) := by omega
                have hjm : (j : Int) < (m : Int) := by omega
                obtain ⟨b1', o1, e1, _, hc1⟩ := (HFE.out.belowS HBW.out).strs (by rw [HK1.out]; omega)
                have t1 := (CEL.out ⟨b1', o1 + j, none⟩).trans (hc1 j (by rw [HK1.out]; omega))
                obtain ⟨b2, o2, e2, _, hc2⟩ := (HFE.out.belowS HBW.out).bits (by rw [HNH.out]; omega)
                have t2 := (CEL.out ⟨b2, o2 + j, none⟩).trans (hc2 j (by rw [HNH.out]; omega))
                obtain ⟨b3, o3, e3, _, hc3⟩ := (HI.out.belowS HBW.out) (by rw [leafL_length, HM0.out]; omega)
                have t3 := (CEL.out ⟨b3, o3 + j, none⟩).trans (hc3 j (by rw [leafL_length, HM0.out]; omega))
                rw [nth_leafT b0 j (by rw [HM0.out]; omega)] at t3
                injection e3 with e3
                injection e3 with e31 e32
                subst e31 e32
                have HFT := HFE.out.fit j
                obtain ⟨v, HV⟩ : ∃ x, Hid (bth hs1 j = x) := ⟨_, rfl⟩
                obtain ⟨s1, HS1⟩ : ∃ x, Hid (sth bs j = x) := ⟨_, rfl⟩
                obtain ⟨z3, HZ3⟩ : ∃ x, Hid (textOr (sth b0 j) = x) := ⟨_, rfl⟩
                rw [HS1.out] at t1 HFT
                rw [HV.out] at t2
                rw [HZ3.out, Nat.zero_add] at t3
                rw [e2] at z5
                have T1 := Lib.hid (fun U => text_any s1 U HFT)
                obtain ⟨z1, HZ1⟩ : ∃ x, Hid (textOr s1 = x) := ⟨_, rfl⟩
                rw [HZ1.out] at T1
                have HS : Hid ((v = true → z1 = z3) → ∀ i, i < j + 1 → bth hs1 i = true → textOr (sth bs i) = textOr (sth b0 i)) := fun x i hi hb => by
                  rcases Nat.lt_or_ge i j with e | e
                  · exact HC.out i e hb
                  · have : i = j := by omega
                    subst this
                    rw [HS1.out, HZ1.out, HZ3.out]
                    exact x (by rw [← HV.out]; exact hb)
                have HNO : Hid (v = true → z1 ≠ z3 → res = false) := fun x1 x2 => by
                  rw [HRS.out, ← HSM.out, Bool.eq_false_iff]
                  intro e
                  refine x2 ?_
                  have := (sameB_iff _ _).1 e j (by show j < bs.length; rw [HK1.out]; exact hjk) (HV.out.trans x1)
                  rw [← HZ1.out, ← HZ3.out, ← HS1.out]
                  exact this
                subst e1
                clear hc1 hc2 hc3 HFT e2
                cases v with
                | false =>
                  have HS2 := Lib.hid (HS.out (fun x => by cases x))
                  go_wp2_with fail
                  go_quiet (fail)
                  go_wp2
                  go_roundw
                  case rel => exact ⟨j + 1, by omega, by go_num, HQN.out _, HS2.out⟩
                  case measure => simp [intOf]; omega
                | true =>
                  by_cases hz : z1 = z3
                  · have HS2 := Lib.hid (HS.out (fun _ => hz))
                    have hzb : (z1 != z3) = false := by rw [hz]; simp
                    clear hz
                    go_wp2_with fail
                    go_quiet ((go_at_call 82; with_reducible exact Calls.quiet_of_same ((T1.out _).mono fun e w' h => ⟨h.1, h.2.symm⟩)))
                    go_wp2
                    go_roundw
                    case rel => exact ⟨j + 1, by omega, by go_num, HQN.out _, HS2.out⟩
                    case measure => simp [intOf]; omega
                  · have hzb : (z1 != z3) = true := bne_iff_ne.2 hz
                    have HF : Hid (res = false) := HNO.out rfl hz
                    clear hz
                    go_wp2_with fail
                    go_quiet ((go_at_call 82; with_reducible exact Calls.quiet_of_same ((T1.out _).mono fun e w' h => ⟨h.1, h.2.symm⟩)))
                    go_wp2
                    go_ret
                    exact ⟨ret_bool HF.out.symm, below_drewN HBr.out _⟩
              · have hje : j = k := by omega
                subst hje
                have HF : Hid (res = true) := by
                  show _ = _
                  rw [HRS.out, ← HSM.out]
                  exact (sameB_iff _ _).2 fun i hi hb => HC.out i (by have : i < bs.length := hi; rwa [HK1.out] at this) hb
                go_wp2
                go_ret
                exact ⟨ret_bool HF.out.symm, HBr.out⟩
          · have HF : Hid (res = false) := by show _ = _; rw [HRES.out, HHV.out, decide_eq_false e3]; simp
            have b1 : ((k : Int) == ml) = true := beq_iff_eq.2 e1
            have b2 : (d == md) = true := beq_iff_eq.2 e2
            have b3 : (s == ms) = false := beq_eq_false_iff_ne.2 e3
            clear e1 e2 e3
            go_wp2
            go_ret
            exact ⟨ret_bool HF.out.symm, HBW.out⟩
        · have HF : Hid (res = false) := by show _ = _; rw [HRES.out, HHV.out, decide_eq_false e2]; simp
          have b1 : ((k : Int) == ml) = true := beq_iff_eq.2 e1
          have b2 : (d == md) = false := beq_eq_false_iff_ne.2 e2
          clear e1 e2
          go_wp2
          go_ret
          exact ⟨ret_bool HF.out.symm, HBW.out⟩
      · have HF : Hid (res = false) := by show _ = _; rw [HRES.out, HHV.out, decide_eq_false e1]; simp
        have b1 : ((k : Int) == ml) = false := beq_eq_false_iff_ne.2 e1
        clear e1
        go_wp2
        go_ret
        exact ⟨ret_bool HF.out.symm, HBW.out⟩
  · have hkd : decide ((k : Int) ≤ (m : Int)) = false := decide_eq_false hkm
    have hkg : (m : Int) < (k : Int) := by omega
    rw [hkd] at HRES
    have HF : Hid (res = false) := by show _ = _; rw [HRES.out]; rfl
    go_wp2
    go_ret
    exact ⟨ret_bool HF.out.symm, HB.out⟩
end Go.Proofs.Ytkmebilhbjcfpaa
