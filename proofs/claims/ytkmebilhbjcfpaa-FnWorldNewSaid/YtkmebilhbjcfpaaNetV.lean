/- Contracts of requestsValid, of slices.Equal at integers, of pieceValid and of netValid: they answer as the data say. Conditions: the run lies in memory and has a writer with at most 16 blocks. -/
import Derived.Test.YtkmebilhbjcfpaaRunAny
import Derived.Test.YtkmebilhbjcfpaaSRunC
import Derived.Test.YtkmebilhbjcfpaaWin
import Derived.Test.YtkmebilhbjcfpaaFeedValid
import Derived.Deep.RegionHeld3
namespace Go.Proofs.Ytkmebilhbjcfpaa
open Go.RowKit
set_option linter.unusedVariables false

/-- What requestsValid asks. -/
def ReqsOk (n : Nat) (hs : List AH) : Prop := hs.length = n ∧ ∀ k, k < hs.length → winB (ahth hs k).xs = true

set_option maxHeartbeats 1000000 in
theorem askBad_any (H : AH) (w : World) (hA : AsksAt w w.heap.size H.a H.c H.xs) :
    Calls Try.prog 56 #[ahV H] w fun e w' => e = .returned (.bool (!winB H.xs)) ∧ Below w.heap.size w w' := by
  have C := Lib.hid (winValid_any H.a H.c H.xs w hA)
  clear hA
  go_enter Try.func56, Try.ntmps56
  go_wp2_with fail
  refine C.out.mono ?_
  rintro e w2 ⟨rfl, hb2⟩
  have HB := Lib.hid hb2
  clear hb2
  go_wp2
  go_ret
  exact ⟨rfl, HB.out⟩

set_option maxHeartbeats 2000000 in
set_option maxRecDepth 100000 in
theorem reqs_any (sec bad : Int) (r : WR) (ls : List LinkD) (m n2 q : Nat) (w : World) (h : RunAt w w.heap.size r ls) (hq : r.ah.length = q) :
    Calls Try.prog 30 #[.agg #[.int .i64 sec, .int .i64 bad, .slice r.A1 m r.c1, .slice r.A2 n2 r.c2, .slice r.A3 q r.c3, .slice r.A4 r.qh.length r.c4]] w fun e w' => ∃ res, e = .returned (.bool res) ∧ (res = true ↔ ReqsOk m r.ah) ∧ Below w.heap.size w w' := by
  obtain ⟨W, HW⟩ : ∃ W, Hid (w.alloc (.cells #[.int .i64 sec, .int .i64 bad, .slice r.A1 m r.c1, .slice r.A2 n2 r.c2, .slice r.A3 q r.c3, .slice r.A4 r.qh.length r.c4] 30) = W) := ⟨_, rfl⟩
  have KA : Hid (Blk W w.heap.size 30 #[.int .i64 sec, .int .i64 bad, .slice r.A1 m r.c1, .slice r.A2 n2 r.c2, .slice r.A3 q r.c3, .slice r.A4 r.qh.length r.c4]) := by rw [← HW.out]; exact Blk.new w _ _
  have HB : Hid (Below w.heap.size w W) := by rw [← HW.out]; exact (Below.refl _ w).alloc (Nat.le_refl _) _
  obtain ⟨a0, a1, a2, a3, a4, a5⟩ := run_cells KA.out
  have hw := h.belowS HB.out
  have CA := Lib.hid (asksAny_any r.A3 r.c3 r.ah (fun k => !winB (ahth r.ah k).xs) W hw.r3 hw.m3 (fun k hk U hU => askBad_any (ahth r.ah k) U ((hw.asks k hk).belowS hU)))
  have HALL : Hid ((!anyN r.ah.length (fun k => !winB (ahth r.ah k).xs)) = true ↔ ∀ k, k < r.ah.length → winB (ahth r.ah k).xs = true) := anyN_all (Q := fun k => winB (ahth r.ah k).xs) (fun _ _ => rfl)
  obtain ⟨any, HANY⟩ : ∃ x, Hid (anyN r.ah.length (fun k => !winB (ahth r.ah k).xs) = x) := ⟨_, rfl⟩
  rw [HANY.out] at CA HALL
  rw [hq] at CA
  have HQ := Lib.hid hq
  have hsz : w.heap.size ≤ W.heap.size := HB.out.size
  clear h hw hq
  by_cases hqm : q = m
  · have hne : ((q : Int) != (m : Int)) = false := by rw [hqm]; simp
    have HR : Hid ((!any) = true ↔ ReqsOk m r.ah) := HALL.out.trans ⟨fun x => ⟨by rw [HQ.out]; exact hqm, x⟩, fun x => x.2⟩
    clear hqm
    go_enter Try.func30, Try.ntmps30
    go_upto_region 1 with fail
    rw [HW.out]
    go_wp2_with fail
    refine CA.out.mono ?_
    rintro e w3 ⟨rfl, hb3⟩
    have HB3 : Hid (Below w.heap.size w w3) := HB.out.trans (hb3.mono hsz)
    clear hb3
    go_wp2
    go_ret
    exact ⟨_, rfl, HR.out, HB3.out⟩
  · have hne : ((q : Int) != (m : Int)) = true := by simp; omega
    have HR : Hid (¬ ReqsOk m r.ah) := fun x => hqm (HQ.out.symm.trans x.1)
    clear hqm
    go_enter Try.func30, Try.ntmps30
    go_upto_region 1 with fail
    rw [HW.out]
    go_wp2
    go_ret
    exact ⟨false, rfl, ⟨fun x => (by cases x), fun x => absurd x HR.out⟩, HB.out⟩

set_option maxHeartbeats 1000000 in
theorem equal_any (A : Option Addr) (cap : Nat) (xs : List Int) (A1 : Option Addr) (cap1 : Nat) (ys : List Int) (w : World) (hI : IntsAt w w.heap.size A xs) (hJ : IntsAt w w.heap.size A1 ys) (hm : xs.length ≤ maxLen) (hm1 : ys.length ≤ maxLen) :
    Calls Try.prog 88 #[.slice A xs.length cap, .slice A1 ys.length cap1] w fun e w' => e = .returned (.bool (decide (xs = ys))) ∧ ∃ q, w' = w.drewN q := by
  unfold maxLen at hm hm1
  have HI := Lib.hid hI
  have HJ := Lib.hid hJ
  clear hI hJ
  by_cases hl : xs.length = ys.length
  · obtain ⟨n, HN⟩ : ∃ n, Hid (xs.length = n) := ⟨_, rfl⟩
    have HN1 : Hid (ys.length = n) := by show _ = _; rw [← hl]; exact HN.out
    rw [HN.out] at hm ⊢
    rw [HN1.out] at hm1 ⊢
    clear hl
    go_enter Try.func88, Try.ntmps88
    go_wp2
    go_loopw [5, 13] (fun _ i w' => ∃ k : Nat, k ≤ n ∧ i = .int .i64 k ∧ Hid (xs.take k = ys.take k) ∧ ∃ q, w' = w.drewN q) (fun _ i _ => n - (intOf i).toNat)
    case atStart => exact ⟨0, Nat.zero_le _, rfl, rfl, 0, rfl⟩
    case round =>
      obtain ⟨k, hk, rfl, HD, q, rfl⟩ := hrel
      by_cases hlt : k < n
      · have hlx : k < xs.length := by rw [HN.out]; exact hlt
        have hly : k < ys.length := by rw [HN1.out]; exact hlt
        obtain ⟨b, o, rfl, hb, hc⟩ := HI.out (by omega)
        obtain ⟨b1, o1, rfl, hb1, hc1⟩ := HJ.out (by omega)
        have hck := hc k hlx
        have hck1 := hc1 k hly
        have hk0 : (0 : Int) ≤ (k : Int) := by omega
        have hk1 : (k : Int) < (n : Int) := by omega
        by_cases hv : nth xs k = nth ys k
        · have HT : Hid (xs.take (k + 1) = ys.take (k + 1)) := same_take xs ys k hlx hly HD.out hv
          have hvb : (nth xs k != nth ys k) = false := by simp [hv]
          clear hc hc1 hlx hly hv
          go_wp2_with fail
          go_quiet (fail)
          go_wp2
          go_roundw
          case rel => exact ⟨k + 1, by omega, by go_num, HT, _, rfl⟩
          case measure => simp [intOf]; omega
        · have HE := Lib.hid (same_ne xs ys k hv)
          have hvb : (nth xs k != nth ys k) = true := by simp [hv]
          clear hc hc1 hlx hly hv
          go_wp2_with fail
          go_quiet (fail)
          go_wp2
          go_ret
          exact ⟨ret_bool HE.out.symm, _, by first | rfl | exact World.drewN_drewN _ _ _⟩
      · have HE : Hid (decide (xs = ys) = true) := by
          show _ = _
          rw [decide_eq_true_iff]
          have := HD.out
          rw [List.take_of_length_le (by rw [HN.out]; omega), List.take_of_length_le (by rw [HN1.out]; omega)] at this
          exact this
        go_wp2
        go_ret
        exact ⟨ret_bool HE.out.symm, _, rfl⟩
  · have HE : Hid (decide (xs = ys) = false) := by show _ = _; rw [decide_eq_false_iff_not]; exact fun e => hl (by rw [e])
    have hne : ((xs.length : Int) != (ys.length : Int)) = true := by simp; omega
    clear hl
    go_enter Try.func88, Try.ntmps88
    go_wp2
    go_ret
    exact ⟨ret_bool HE.out.symm, 0, rfl⟩

theorem pieceB_eq (m : Nat) (bs : List ByteArray) (fr tq ln ix : Int) (tx : ByteArray) (pf : List Int) : pieceB m bs.length bs ⟨fr, tq, ln, ix, tx, pf⟩ = (inR m fr && (inR m tq && (decide (tx.size ≤ 8) && (decide (1 ≤ ln) && (decide (ln ≤ bs.length) && (decide (0 ≤ ix) && (decide (ix < ln) && decide (pf = proofOr (leafL (bs.take ln.toNat)) ix)))))))) := by
  rw [Bool.eq_iff_iff]
  unfold pieceB
  simp only [Bool.and_eq_true, inR_iff, decide_eq_true_eq]
  constructor
  · rintro ⟨⟨a1, a2⟩, ⟨a3, a4⟩, ⟨a5, a6⟩, ⟨a7, a8⟩, a9, a10⟩
    exact ⟨⟨a1, by omega⟩, ⟨a3, by omega⟩, a9, a5, a6, a7, by omega, a10⟩
  · rintro ⟨⟨a1, a2⟩, ⟨a3, a4⟩, a9, a5, a6, a7, a8, a10⟩
    exact ⟨⟨a1, by omega⟩, ⟨a3, by omega⟩, ⟨a5, a6⟩, ⟨a7, by omega⟩, a9, a10⟩

set_option maxHeartbeats 8000000 in
set_option maxRecDepth 100000 in
theorem pieceV_any (sec bad : Int) (r : WR) (m n2 : Nat) (b0 : List ByteArray) (g0 c0 : Nat) (q : QH) (w : World) (hI : IntsAt w w.heap.size (some ⟨g0, 0, none⟩) (leafL b0)) (hc0 : b0.length ≤ c0) (hc1 : c0 ≤ maxLen) (h16 : b0.length ≤ 16) (hq : QhAt w w.heap.size q) :
    Calls Try.prog 60 #[.agg #[.int .i64 sec, .int .i64 bad, .slice r.A1 m r.c1, .slice r.A2 n2 r.c2, .slice r.A3 r.ah.length r.c3, .slice r.A4 r.qh.length r.c4], .slice (some ⟨g0, 0, none⟩) b0.length c0, qhV q] w fun e w' => e = .returned (.bool (pieceB m b0.length b0 q.p)) ∧ Below w.heap.size w w' := by
  obtain ⟨⟨fr, tq, ln, ix, tx, pf⟩, qa, qc⟩ := q
  obtain ⟨np, HNP⟩ : ∃ x, Hid (pf.length = x) := ⟨_, rfl⟩
  have hpm : np ≤ qc := by rw [← HNP.out]; exact hq.le
  have hpc := hq.most
  have htm := hq.tx
  unfold maxLen at hpc htm hc1
  simp only at hpc htm
  have HPI := Lib.hid hq.ints
  have HI := Lib.hid hI
  obtain ⟨k0, HM0⟩ : ∃ x, Hid (b0.length = x) := ⟨_, rfl⟩
  have HPB : Hid (pieceB m (b0.length : Int) b0 ⟨fr, tq, ln, ix, tx, pf⟩ = (inR m fr && (inR m tq && (decide (tx.size ≤ 8) && (decide (1 ≤ ln) && (decide (ln ≤ (k0 : Int)) && (decide (0 ≤ ix) && (decide (ix < ln) && decide (pf = proofOr (leafL (b0.take ln.toNat)) ix))))))))) := by show _ = _; rw [pieceB_eq, HM0.out]
  obtain ⟨pz, HPZ⟩ : ∃ x, Hid (decide (pf = proofOr (leafL (b0.take ln.toNat)) ix) = x) := ⟨_, rfl⟩
  rw [HPZ.out] at HPB
  obtain ⟨res, HR2⟩ : ∃ x, Hid (pieceB m (b0.length : Int) b0 ⟨fr, tq, ln, ix, tx, pf⟩ = x) := ⟨_, rfl⟩
  rw [HR2.out] at HPB ⊢
  rw [HM0.out] at hc0 h16 ⊢
  unfold qhV
  dsimp only
  rw [HNP.out]
  clear hI hq
  obtain ⟨V0, HV0⟩ : ∃ W, Hid ((w.alloc (.cells #[.int .i64 sec, .int .i64 bad, .slice r.A1 m r.c1, .slice r.A2 n2 r.c2, .slice r.A3 r.ah.length r.c3, .slice r.A4 r.qh.length r.c4] 30)).alloc (.cells #[.int .i64 fr, .int .i64 tq, .int .i64 ln, .int .i64 ix, .string tx, .slice qa np qc] 58) = W) := ⟨_, rfl⟩
  have KA : Hid (Blk V0 w.heap.size 30 #[.int .i64 sec, .int .i64 bad, .slice r.A1 m r.c1, .slice r.A2 n2 r.c2, .slice r.A3 r.ah.length r.c3, .slice r.A4 r.qh.length r.c4]) := by rw [← HV0.out]; exact (Blk.new w _ _).alloc _
  have KP : Hid (Blk V0 (w.heap.size + 1) 58 #[.int .i64 fr, .int .i64 tq, .int .i64 ln, .int .i64 ix, .string tx, .slice qa np qc]) := by
    rw [← HV0.out]
    have := Blk.new (w.alloc (.cells #[.int .i64 sec, .int .i64 bad, .slice r.A1 m r.c1, .slice r.A2 n2 r.c2, .slice r.A3 r.ah.length r.c3, .slice r.A4 r.qh.length r.c4] 30)) 58 #[.int .i64 fr, .int .i64 tq, .int .i64 ln, .int .i64 ix, .string tx, .slice qa np qc]
    rwa [World.size_alloc] at this
  have HB : Hid (Below w.heap.size w V0) := by rw [← HV0.out]; exact ((Below.refl _ w).alloc (Nat.le_refl _) _).alloc (by rw [World.size_alloc]; omega) _
  have C1 : Hid (∀ (p : Int) (U : World), Calls Try.prog 53 #[.agg #[.int .i64 sec, .int .i64 bad, .slice r.A1 m r.c1, .slice r.A2 n2 r.c2, .slice r.A3 r.ah.length r.c3, .slice r.A4 r.qh.length r.c4], .int .i64 p] U fun e w' => e = .returned (.bool (inR m p)) ∧ Below U.heap.size U w') := fun p U => inRun_any sec bad r m n2 p U
  obtain ⟨a0, a1, a2, a3, a4, a5⟩ := run_cells KA.out
  obtain ⟨p0, p1, p2, p3, p4, p5⟩ := run_cells KP.out
  have hz0 : w.heap.size < V0.heap.size := KA.out.lt
  have hz1 : w.heap.size + 1 < V0.heap.size := KP.out.lt
  go_enter Try.func60, Try.ntmps60
  go_upto_region 1 with fail
  rw [HV0.out]
  have C1a := Lib.hid (C1.out fr V0)
  cases h1 : inR m fr with
  | false =>
    rw [h1] at C1a HPB
    have HF : Hid (res = false) := by show _ = _; rw [HPB.out]; rfl
    clear h1
    go_wp2_with fail
    refine C1a.out.mono ?_
    rintro e w2 ⟨rfl, hb2⟩
    have HB2 : Hid (Below w.heap.size w w2) := HB.out.trans (hb2.mono (by omega))
    clear hb2
    go_wp2
    go_ret
    exact ⟨ret_bool HF.out.symm, HB2.out⟩
  | true =>
    rw [h1] at C1a HPB
    clear h1
    go_wp2_with fail
    refine C1a.out.mono ?_
    rintro e w2 ⟨rfl, hb2⟩
    have HB2 : Hid (Below w.heap.size w w2) := HB.out.trans (hb2.mono (by omega))
    have KA2 := Lib.hid (KA.out.below hb2 hz0)
    have KP2 := Lib.hid (KP.out.below hb2 hz1)
    have hz2 : V0.heap.size ≤ w2.heap.size := hb2.size
    clear hb2 a0 a1 a2 a3 a4 a5 p0 p1 p2 p3 p4 p5 C1a
    obtain ⟨a0, a1, a2, a3, a4, a5⟩ := run_cells KA2.out
    obtain ⟨p0, p1, p2, p3, p4, p5⟩ := run_cells KP2.out
    have C1b := Lib.hid (C1.out tq w2)
    cases h2 : inR m tq with
    | false =>
      rw [h2] at C1b HPB
      have HF : Hid (res = false) := by show _ = _; rw [HPB.out]; rfl
      clear h2
      go_wp2_with fail
      refine C1b.out.mono ?_
      rintro e w3 ⟨rfl, hb3⟩
      have HB3 : Hid (Below w.heap.size w w3) := HB2.out.trans (hb3.mono (by omega))
      clear hb3
      go_wp2
      go_ret
      exact ⟨ret_bool HF.out.symm, HB3.out⟩
    | true =>
      rw [h2] at C1b HPB
      clear h2
      go_wp2_with fail
      refine C1b.out.mono ?_
      rintro e w3 ⟨rfl, hb3⟩
      have HB3 : Hid (Below w.heap.size w w3) := HB2.out.trans (hb3.mono (by omega))
      have KA3 := Lib.hid (KA2.out.below hb3 (by omega))
      have KP3 := Lib.hid (KP2.out.below hb3 (by omega))
      have hz3 : w2.heap.size ≤ w3.heap.size := hb3.size
      clear hb3 a0 a1 a2 a3 a4 a5 p0 p1 p2 p3 p4 p5 C1b
      obtain ⟨a0, a1, a2, a3, a4, a5⟩ := run_cells KA3.out
      obtain ⟨p0, p1, p2, p3, p4, p5⟩ := run_cells KP3.out
      by_cases h8 : tx.size ≤ 8
      · have h8d : decide (tx.size ≤ 8) = true := decide_eq_true h8
        have h8i : ¬ (8 : Int) < (tx.size : Int) := by omega
        rw [h8d] at HPB
        clear h8d h8
        by_cases h3 : 1 ≤ ln
        · by_cases h4 : ln ≤ (k0 : Int)
          · by_cases h5 : 0 ≤ ix
            · by_cases h6 : ix < ln
              · have n3 : ¬ ln < 1 := by omega
                have n4 : ¬ (k0 : Int) < ln := by omega
                have n5 : ¬ ix < 0 := by omega
                have n6 : ¬ ln ≤ ix := by omega
                have HF : Hid (res = pz) := by show _ = _; rw [HPB.out, decide_eq_true h3, decide_eq_true h4, decide_eq_true h5, decide_eq_true h6]; rfl
                obtain ⟨k, rfl⟩ : ∃ k : Nat, ln = (k : Int) := ⟨ln.toNat, by omega⟩
                obtain ⟨j, rfl⟩ : ∃ k : Nat, ix = (k : Int) := ⟨ix.toNat, by omega⟩
                rw [Int.toNat_natCast] at HPZ
                have hkc : (k : Int) ≤ (c0 : Int) := by omega
                have hk0' : (0 : Int) ≤ (k : Int) := by omega
                have HLL : Hid ((leafL (b0.take k)).length = k) := by have := HM0.out; show _ = _; rw [leafL_length, List.length_take]; omega
                have HI3 : Hid (IntsAt w3 w3.heap.size (some ⟨g0, 0, none⟩) (leafL (b0.take k))) := by
                  have := ((HI.out.belowS HB3.out).first k)
                  rw [← leafL_take] at this
                  exact this
                have CT : Hid (Calls Try.prog 89 #[.slice (some ⟨g0, 0, none⟩) k c0, .int .i64 (j : Int)] w3.drew (RetInts w3.drew (proofOr (leafL (b0.take k)) (j : Int)))) := by
                  have := proof_any (leafL (b0.take k)) (j : Int) g0 0 c0 w3.drew HI3.out (by rw [HLL.out]; omega) (by unfold maxLen; omega)
                  rw [HLL.out] at this
                  exact this
                have hz30 : w.heap.size < w3.heap.size := by omega
                have hz31 : w.heap.size + 1 < w3.heap.size := by omega
                clear h3 h4 h5 h6
                go_wp2_with fail
                go_region_held3 (fun w' => w'.cell? ⟨w.heap.size + 1, 2, none⟩ = some (.int .i64 (k : Int)) ∧ w'.cell? ⟨w.heap.size + 1, 3, none⟩ = some (.int .i64 (j : Int)) ∧ w'.cell? ⟨w.heap.size + 1, 5, none⟩ = some (.slice qa np qc)) (go_keep)
                  (first
                    | (go_at_call 89; (with_reducible refine (CT.out).mono ?_); rintro e w4 ⟨X3, c3, rfl, ho4, hb4⟩; have HB4 : Hid (Below w3.heap.size w3 w4) := below_drew_l hb4; have HO4 : Hid (OwnInts w4 w3.heap.size X3 c3 (proofOr (leafL (b0.take k)) (j : Int))) := ho4; obtain ⟨m0, m1, m2, m3, m4, m5⟩ := run_cells (KP3.out.below HB4.out hz31); clear hb4 ho4)
                    | (go_at_call 88; have HB4w : Hid (Below w.heap.size w w4) := HB3.out.trans (HB4.out.mono HB3.out.size); have CS := equal_any qa qc pf X3 c3 (proofOr (leafL (b0.take k)) (j : Int)) w4 (HPI.out.belowS HB4w.out) HO4.out.ints (by rw [HNP.out]; unfold maxLen; omega) (by have := proofOr_short (leafL (b0.take k)) (j : Int); unfold maxLen; omega); rw [HNP.out, HPZ.out] at CS; refine CS.mono ?_; rintro e w5 ⟨rfl, qn, rfl⟩; have HB5 : Hid (Below w.heap.size w (w4.drewN qn)) := below_drewN HB4w.out qn; clear CS))
                go_wp2
                go_ret
                exact ⟨ret_bool HF.out.symm, HB5.out⟩
              · have n3 : ¬ ln < 1 := by omega
                have n4 : ¬ (k0 : Int) < ln := by omega
                have n5 : ¬ ix < 0 := by omega
                have n6 : ln ≤ ix := by omega
                have HF : Hid (res = false) := by show _ = _; rw [HPB.out, decide_eq_false h6]; simp
                clear h3 h4 h5 h6
                go_wp2
                go_ret
                exact ⟨ret_bool HF.out.symm, HB3.out⟩
            · have n3 : ¬ ln < 1 := by omega
              have n4 : ¬ (k0 : Int) < ln := by omega
              have n5 : ix < 0 := by omega
              have HF : Hid (res = false) := by show _ = _; rw [HPB.out, decide_eq_false h5]; simp
              clear h3 h4 h5
              go_wp2
              go_ret
              exact ⟨ret_bool HF.out.symm, HB3.out⟩
          · have n3 : ¬ ln < 1 := by omega
            have n4 : (k0 : Int) < ln := by omega
            have HF : Hid (res = false) := by show _ = _; rw [HPB.out, decide_eq_false h4]; simp
            clear h3 h4
            go_wp2
            go_ret
            exact ⟨ret_bool HF.out.symm, HB3.out⟩
        · have n3 : ln < 1 := by omega
          have HF : Hid (res = false) := by show _ = _; rw [HPB.out, decide_eq_false h3]; simp
          clear h3
          go_wp2
          go_ret
          exact ⟨ret_bool HF.out.symm, HB3.out⟩
      · have h8i : (8 : Int) < (tx.size : Int) := by omega
        have HF : Hid (res = false) := by show _ = _; rw [HPB.out, decide_eq_false h8]; simp
        clear h8
        go_wp2
        go_ret
        exact ⟨ret_bool HF.out.symm, HB3.out⟩

set_option maxHeartbeats 4000000 in
set_option maxRecDepth 100000 in
theorem pieceBad_any (sec bad : Int) (r : WR) (m n2 : Nat) (b0 : List ByteArray) (g0 c0 gw gl : Nat) (q : QH) (w : World) (hI : IntsAt w w.heap.size (some ⟨g0, 0, none⟩) (leafL b0)) (hc0 : b0.length ≤ c0) (hc1 : c0 ≤ maxLen) (h16 : b0.length ≤ 16) (hq : QhAt w w.heap.size q)
    (hKA : Blk w gw 30 #[.int .i64 sec, .int .i64 bad, .slice r.A1 m r.c1, .slice r.A2 n2 r.c2, .slice r.A3 r.ah.length r.c3, .slice r.A4 r.qh.length r.c4]) (hKL : Blk w gl 56 #[.slice (some ⟨g0, 0, none⟩) b0.length c0]) :
    Calls Try.prog 59 #[qhV q, .pointer (some ⟨gw, 0, none⟩), .pointer (some ⟨gl, 0, none⟩)] w fun e w' => e = .returned (.bool (!pieceB m b0.length b0 q.p)) ∧ Below w.heap.size w w' := by
  obtain ⟨V, HV⟩ : ∃ V, Hid (w.alloc (.cells #[.int .i64 q.p.fr, .int .i64 q.p.to, .int .i64 q.p.ln, .int .i64 q.p.ix, .string q.p.tx, .slice q.a q.p.pf.length q.c] 58) = V) := ⟨_, rfl⟩
  have KP : Hid (Blk V w.heap.size 58 #[.int .i64 q.p.fr, .int .i64 q.p.to, .int .i64 q.p.ln, .int .i64 q.p.ix, .string q.p.tx, .slice q.a q.p.pf.length q.c]) := by rw [← HV.out]; exact Blk.new w _ _
  have HB : Hid (Below w.heap.size w V) := by rw [← HV.out]; exact (Below.refl _ w).alloc (Nat.le_refl _) _
  have KA := Lib.hid (hKA.below HB.out hKA.lt)
  have KL := Lib.hid (hKL.below HB.out hKL.lt)
  have C := Lib.hid (pieceV_any sec bad r m n2 b0 g0 c0 q V (hI.belowS HB.out) hc0 hc1 h16 ((hq.keep fun p hp => HB.out.cell hp).more HB.out.size))
  obtain ⟨p0, p1, p2, p3, p4, p5⟩ := run_cells KP.out
  obtain ⟨a0, a1, a2, a3, a4, a5⟩ := run_cells KA.out
  have y1 : V.cell? ⟨gl, 0, none⟩ = some (.slice (some ⟨g0, 0, none⟩) b0.length c0) := KL.out.cell 0
  obtain ⟨res, HR⟩ : ∃ x, Hid (pieceB m (b0.length : Int) b0 q.p = x) := ⟨_, rfl⟩
  rw [HR.out] at C ⊢
  obtain ⟨⟨fr, tq, ln, ix, tx, pf⟩, qa, qc⟩ := q
  unfold qhV at C ⊢
  dsimp only at C p0 p1 p2 p3 p4 p5 HV ⊢
  obtain ⟨n1, HN1⟩ : ∃ x, pf.length = x := ⟨_, rfl⟩
  obtain ⟨n3, HN3⟩ : ∃ x, b0.length = x := ⟨_, rfl⟩
  rw [HN1] at C p5 HV ⊢
  rw [HN3] at C y1
  have hsz : w.heap.size ≤ V.heap.size := HB.out.size
  clear hI hc0 hc1 h16 hq hKA hKL HN1 HN3 KP KL KA
  go_enter Try.func59, Try.ntmps59
  go_upto_region 1 with fail
  rw [HV.out]
  go_wp2_with fail
  refine C.out.mono ?_
  rintro e w2 ⟨rfl, hb2⟩
  have HB2 : Hid (Below w.heap.size w w2) := HB.out.trans (hb2.mono hsz)
  clear hb2
  go_wp2
  go_ret
  exact ⟨rfl, HB2.out⟩

/-- What netValid asks. -/
def NetOk (m : Nat) (b0 : List ByteArray) (hs : List QH) : Prop := hs.length ≤ 12 ∧ ∀ k, k < hs.length → pieceB m b0.length b0 (qhth hs k).p = true

set_option maxHeartbeats 4000000 in
set_option maxRecDepth 100000 in
theorem netV_any (sec bad : Int) (r : WR) (ls : List LinkD) (m n2 : Nat) (w : World) (h : RunAt w w.heap.size r ls) (hm : r.fh.length = m) (hp : 0 < m) (h16 : (fhth r.fh 0).f.bs.length ≤ 16) :
    Calls Try.prog 31 #[.agg #[.int .i64 sec, .int .i64 bad, .slice r.A1 m r.c1, .slice r.A2 n2 r.c2, .slice r.A3 r.ah.length r.c3, .slice r.A4 r.qh.length r.c4]] w fun e w' => ∃ res, e = .returned (.bool res) ∧ (res = true ↔ NetOk m (fhth r.fh 0).f.bs r.qh) ∧ Below w.heap.size w w' := by
  have CWL : Hid (∀ U, Below w.heap.size w U → Calls Try.prog 49 #[.agg #[.int .i64 sec, .int .i64 bad, .slice r.A1 m r.c1, .slice r.A2 n2 r.c2, .slice r.A3 r.ah.length r.c3, .slice r.A4 r.qh.length r.c4]] U (RetSome U (leafL (fhth r.fh 0).f.bs))) := fun U hU => wLeaves_any sec bad r ls m n2 U (h.belowS hU) hm hp h16
  have h12 := h.m4
  unfold maxLen at h12
  have HRUN := Lib.hid h
  have H16 := Lib.hid h16
  clear h hm h16
  obtain ⟨q, HQ⟩ : ∃ x, Hid (r.qh.length = x) := ⟨_, rfl⟩
  have HWC : Hid ((.agg #[.int .i64 sec, .int .i64 bad, .slice r.A1 m r.c1, .slice r.A2 n2 r.c2, .slice r.A3 r.ah.length r.c3, .slice r.A4 r.qh.length r.c4] : Value) = .agg #[.int .i64 sec, .int .i64 bad, .slice r.A1 m r.c1, .slice r.A2 n2 r.c2, .slice r.A3 r.ah.length r.c3, .slice r.A4 q r.c4]) := by show _ = _; rw [HQ.out]
  rw [HWC.out] at CWL ⊢
  rw [HQ.out] at h12
  obtain ⟨W, HW⟩ : ∃ W, Hid (w.alloc (.cells #[.int .i64 sec, .int .i64 bad, .slice r.A1 m r.c1, .slice r.A2 n2 r.c2, .slice r.A3 r.ah.length r.c3, .slice r.A4 q r.c4] 30) = W) := ⟨_, rfl⟩
  have KA : Hid (Blk W w.heap.size 30 #[.int .i64 sec, .int .i64 bad, .slice r.A1 m r.c1, .slice r.A2 n2 r.c2, .slice r.A3 r.ah.length r.c3, .slice r.A4 q r.c4]) := by rw [← HW.out]; exact Blk.new w _ _
  have HB : Hid (Below w.heap.size w W) := by rw [← HW.out]; exact (Below.refl _ w).alloc (Nat.le_refl _) _
  obtain ⟨a0, a1, a2, a3, a4, a5⟩ := run_cells KA.out
  have hsz : w.heap.size < W.heap.size := KA.out.lt
  by_cases hq : q ≤ 12
  · have hqi : ¬ (12 : Int) < (q : Int) := by omega
    have CL := Lib.hid (CWL.out W HB.out)
    obtain ⟨b0, HB0⟩ : ∃ x, Hid ((fhth r.fh 0).f.bs = x) := ⟨_, rfl⟩
    rw [HB0.out] at CL H16 ⊢
    go_enter Try.func31, Try.ntmps31
    go_upto_region 1 with fail
    rw [HW.out]
    go_wp2_with fail
    refine CL.out.mono ?_
    rintro e w2 ⟨g, c, rfl, ho2, hb2⟩
    have HLL : Hid ((leafL b0).length = b0.length) := leafL_length b0
    have HO2 := Lib.hid ho2
    have HBw2 : Hid (Below w.heap.size w w2) := HB.out.trans (hb2.mono HB.out.size)
    have KA2 := Lib.hid (KA.out.below hb2 hsz)
    clear ho2 hb2 a0 a1 a2 a3 a4 a5
    rw [HLL.out]
    obtain ⟨nb, HNB⟩ : ∃ x, Hid (b0.length = x) := ⟨_, rfl⟩
    rw [HNB.out]
    obtain ⟨V, HV⟩ : ∃ U, Hid (w2.alloc (.cells #[.slice (some ⟨g, 0, none⟩) nb c] 56) = U) := ⟨_, rfl⟩
    have KL : Hid (Blk V w2.heap.size 56 #[.slice (some ⟨g, 0, none⟩) nb c]) := by rw [← HV.out]; exact Blk.new _ _ _
    have KA3 : Hid (Blk V w.heap.size 30 #[.int .i64 sec, .int .i64 bad, .slice r.A1 m r.c1, .slice r.A2 n2 r.c2, .slice r.A3 r.ah.length r.c3, .slice r.A4 q r.c4]) := by rw [← HV.out]; exact KA2.out.alloc _
    have HBV : Hid (Below w.heap.size w V) := by rw [← HV.out]; exact HBw2.out.alloc HBw2.out.size _
    have HO3 : Hid (OwnInts V W.heap.size (some ⟨g, 0, none⟩) c (leafL b0)) := by rw [← HV.out]; exact HO2.out.alloc _
    have hRV := HRUN.out.belowS HBV.out
    have HPC : Hid (∀ j, j < r.qh.length → ∀ U, Below V.heap.size V U → Calls Try.prog 59 #[qhV (qhth r.qh j), .pointer (some ⟨w.heap.size, 0, none⟩), .pointer (some ⟨w2.heap.size, 0, none⟩)] U fun e w' => e = .returned (.bool (!pieceB m b0.length b0 (qhth r.qh j).p)) ∧ Below U.heap.size U w') := fun j hj U hU => by
      have hBU : Below w.heap.size w U := HBV.out.trans (hU.mono HBV.out.size)
      have hle := HO3.out.le
      rw [leafL_length] at hle
      refine pieceBad_any sec bad r m n2 b0 g c w.heap.size w2.heap.size (qhth r.qh j) U (HO3.out.ints.belowS hU) hle.1 hle.2 H16.out (((HRUN.out.piece j hj).keep fun p hp => hBU.cell hp).more hBU.size) ?_ ?_
      · rw [HQ.out]; exact KA3.out.below hU KA3.out.lt
      · rw [HNB.out]; exact KL.out.below hU KL.out.lt
    have CA := Lib.hid (pieceAny_any r.A4 r.c4 r.qh w.heap.size w2.heap.size (fun j => !pieceB m b0.length b0 (qhth r.qh j).p) V hRV.r4 hRV.m4 HPC.out)
    have HALL : Hid ((!anyN r.qh.length (fun j => !pieceB m b0.length b0 (qhth r.qh j).p)) = true ↔ NetOk m b0 r.qh) := by
      show _ ↔ _
      rw [anyN_all (Q := fun j => pieceB m b0.length b0 (qhth r.qh j).p) (fun j hj => rfl)]
      exact ⟨fun x => ⟨by rw [HQ.out]; exact hq, x⟩, fun x => x.2⟩
    obtain ⟨any, HANY⟩ : ∃ x, Hid (anyN r.qh.length (fun j => !pieceB m b0.length b0 (qhth r.qh j).p) = x) := ⟨_, rfl⟩
    rw [HANY.out] at CA HALL
    rw [HQ.out] at CA
    obtain ⟨a0, a1, a2, a3, a4, a5⟩ := run_cells KA3.out
    have hmf : ∀ (fn : Fn) (first cap : Array Value) (w : World), (Instr.makeFunc fn first cap).run Try.prog w = .ok (.func fn first cap) w := fun _ _ _ _ => rfl
    clear hRV
    go_upto_region 4 with fail
    rw [HV.out]
    go_wp2_with fail
    refine CA.out.mono ?_
    rintro e w3 ⟨rfl, hb3⟩
    have HB3 : Hid (Below w.heap.size w w3) := HBV.out.trans (hb3.mono HBV.out.size)
    clear hb3
    go_wp2
    go_ret
    exact ⟨_, rfl, HALL.out, HB3.out⟩
  · have hqi : (12 : Int) < (q : Int) := by omega
    have HF : Hid (¬ NetOk m (fhth r.fh 0).f.bs r.qh) := fun x => hq (by rw [← HQ.out]; exact x.1)
    clear hq
    go_enter Try.func31, Try.ntmps31
    go_upto_region 1 with fail
    rw [HW.out]
    go_wp2
    go_ret
    exact ⟨false, rfl, ⟨fun x => (by cases x), fun x => absurd x HF.out⟩, HB.out⟩
end Go.Proofs.Ytkmebilhbjcfpaa
