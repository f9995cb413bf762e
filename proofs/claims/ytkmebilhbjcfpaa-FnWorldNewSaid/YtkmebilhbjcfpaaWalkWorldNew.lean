/- The walk of FnWorldNew: it returns true and changes nothing that was there. Condition: the code's bytes lie in memory. -/
import Derived.Test.YtkmebilhbjcfpaaWorldNewP
import Derived.Test.YtkmebilhbjcfpaaSWorldNew
import Derived.Test.YtkmebilhbjcfpaaWorldV
import Derived.Test.YtkmebilhbjcfpaaSameRun
import Derived.Test.YtkmebilhbjcfpaaDrawWorldNew
namespace Go.Proofs.Ytkmebilhbjcfpaa
open Go.RowKit
set_option linter.unusedVariables false

theorem zeroRun_at (w : World) : RunAt w w.heap.size ⟨none, 0, [], none, 0, none, 0, [], none, 0, []⟩ [] :=
  ⟨RowAt.nil, RowAt.nil, RowAt.nil, RowAt.nil, fun x hx => (by cases hx), fun x hx => (by cases hx), fun x hx => (by cases hx), Nat.zero_le _, Nat.zero_le _, Nat.zero_le _, Nat.zero_le _, fun _ => rfl, fun _ => rfl, fun _ => rfl, fun _ => rfl, Nat.zero_le _, Nat.zero_le _, Nat.zero_le _, Nat.zero_le _, Nat.zero_le _, Nat.zero_le _, Nat.zero_le _, Nat.zero_le _⟩
abbrev zeroRV : Value := .agg #[.int .i64 0, .int .i64 0, .slice none 0 0, .slice none 0 0, .slice none 0 0, .slice none 0 0]
theorem sameZero_any (w : World) : Calls Try.prog 8 #[zeroRV, zeroRV] w fun e w' => e = .returned (.bool true) ∧ Below w.heap.size w w' :=
  sameRun_yes 0 0 ⟨none, 0, [], none, 0, none, 0, [], none, 0, []⟩ ⟨none, 0, [], none, 0, none, 0, [], none, 0, []⟩ [] w (zeroRun_at w) (zeroRun_at w) (Alike.refl _) rfl rfl rfl rfl

set_option maxHeartbeats 8000000 in
set_option maxRecDepth 100000 in
theorem walkWorldNew (A : Option Addr) (len cap : Nat) (w : World) (hI : In w A len cap) :
    Calls Try.prog 3 #[.slice A len cap] w fun e w' => e = .returned (.bool true) ∧ Below w.heap.size w w' := by
  have hm := hI.len_le
  unfold maxLen at hm
  have HI := Lib.hid hI
  clear hI
  by_cases hlen : len ≤ 1048576
  · go_enter Try.func3, Try.ntmps3
    go_wp2_with fail
    refine (drawWorldNew_any A len cap _ HI.out).mono ?_
    rintro e w1 ⟨s, n, b, rfl, hn, hb, hb1⟩
    have HB1 := Lib.hid hb1
    clear hb1
    cases hk : newOk s n b with
    | false =>
      have C1 := Lib.hid (fun U => worldNew_no s n b U hk)
      have C2 := Lib.hid (fun U => sworldNew_no s n b U hk)
      clear hk hn hb
      go_wp2_with fail
      refine (C1.out _).mono ?_
      rintro e w2 ⟨rfl, hb2⟩
      have HB2 : Hid (Below w.heap.size w w2) := HB1.out.trans (hb2.mono HB1.out.size)
      clear hb2
      obtain ⟨V1, HV1⟩ : ∃ U, Hid (w2.alloc (.cells #[.int .i64 0, .int .i64 0, .slice none 0 0, .slice none 0 0, .slice none 0 0, .slice none 0 0] 30) = U) := ⟨_, rfl⟩
      have K1 : Hid (Blk V1 w2.heap.size 30 #[.int .i64 0, .int .i64 0, .slice none 0 0, .slice none 0 0, .slice none 0 0, .slice none 0 0]) := by rw [← HV1.out]; exact Blk.new _ _ _
      have HBV1 : Hid (Below w.heap.size w V1) := by rw [← HV1.out]; exact HB2.out.alloc HB2.out.size _
      go_upto_region 5 with fail
      rw [HV1.out]
      go_wp2_with fail
      refine (C2.out _).mono ?_
      rintro e w3 ⟨rfl, hb3⟩
      have K2 := Lib.hid (K1.out.below hb3 K1.out.lt)
      have HB3 : Hid (Below w.heap.size w w3) := HBV1.out.trans (hb3.mono HBV1.out.size)
      clear hb3
      obtain ⟨V, HV⟩ : ∃ U, Hid (w3.alloc (.cells #[.int .i64 0, .int .i64 0, .slice none 0 0, .slice none 0 0, .slice none 0 0, .slice none 0 0] 30) = U) := ⟨_, rfl⟩
      have KA : Hid (Blk V w2.heap.size 30 #[.int .i64 0, .int .i64 0, .slice none 0 0, .slice none 0 0, .slice none 0 0, .slice none 0 0]) := by rw [← HV.out]; exact K2.out.alloc _
      have KB : Hid (Blk V w3.heap.size 30 #[.int .i64 0, .int .i64 0, .slice none 0 0, .slice none 0 0, .slice none 0 0, .slice none 0 0]) := by rw [← HV.out]; exact Blk.new _ _ _
      have HBV : Hid (Below w.heap.size w V) := by rw [← HV.out]; exact HB3.out.alloc HB3.out.size _
      obtain ⟨a0, a1, a2, a3, a4, a5⟩ := run_cells KA.out
      obtain ⟨b0, b1, b2, b3, b4, b5⟩ := run_cells KB.out
      have hza := KA.out.lt
      have hzb := KB.out.lt
      go_upto_region 6 with fail
      rw [HV.out]
      go_wp2_with fail
      refine (sameZero_any _).mono ?_
      rintro e w4 ⟨rfl, hb4⟩
      have HB4 : Hid (Below w.heap.size w w4) := HBV.out.trans (hb4.mono HBV.out.size)
      have KA4 := Lib.hid (KA.out.below hb4 hza)
      have KB4 := Lib.hid (KB.out.below hb4 hzb)
      clear hb4 a0 a1 a2 a3 a4 a5 b0 b1 b2 b3 b4 b5
      obtain ⟨a0, a1, a2, a3, a4, a5⟩ := run_cells KA4.out
      obtain ⟨b0, b1, b2, b3, b4, b5⟩ := run_cells KB4.out
      go_wp2_with fail
      refine (sameZero_any _).mono ?_
      rintro e w5 ⟨rfl, hb5⟩
      have HB5 : Hid (Below w.heap.size w w5) := HB4.out.trans (hb5.mono HB4.out.size)
      clear hb5
      go_wp2
      go_ret
      exact ⟨rfl, HB5.out⟩
    | true =>
      obtain ⟨m, rfl⟩ : ∃ m : Nat, n = (m : Int) := ⟨n.toNat, by have := ((newOk_iff _ _ _).1 hk).2.1; omega⟩
      have hm6 : 1 ≤ m ∧ m ≤ 6 := by have := ((newOk_iff _ _ _).1 hk).2.1; omega
      have C1 := Lib.hid (fun U => worldNew_yes s b m U hk)
      have C2 := Lib.hid (fun U => sworldNew_yes s b m U hk)
      have HOKW := Lib.hid (okW_new hk)
      clear hk hn hb
      go_wp2_with fail
      refine (C1.out _).mono ?_
      rintro e w2 ⟨A1, c1, g3, rfl, hr2, hb2⟩
      have HN2 := Lib.hid hr2.at_
      have HB2 : Hid (Below w.heap.size w w2) := HB1.out.trans (hb2.mono HB1.out.size)
      clear hb2 hr2
      obtain ⟨V1, HV1⟩ : ∃ U, Hid (w2.alloc (.cells #[.int .i64 s, .int .i64 b, .slice A1 m c1, .slice none 0 0, .slice (some ⟨g3, 0, none⟩) m m, .slice none 0 0] 30) = U) := ⟨_, rfl⟩
      have K1 : Hid (Blk V1 w2.heap.size 30 #[.int .i64 s, .int .i64 b, .slice A1 m c1, .slice none 0 0, .slice (some ⟨g3, 0, none⟩) m m, .slice none 0 0]) := by rw [← HV1.out]; exact Blk.new _ _ _
      have HBV1 : Hid (Below w.heap.size w V1) := by rw [← HV1.out]; exact HB2.out.alloc HB2.out.size _
      have HNV1 : Hid (RunAt V1 V1.heap.size (newR s m A1 c1 g3) []) := by rw [← HV1.out]; exact HN2.out.allocS _
      go_upto_region 5 with fail
      rw [HV1.out]
      go_wp2_with fail
      refine (C2.out _).mono ?_
      rintro e w3 ⟨r, rfl, hd3, hr3, hb3⟩
      have HD := Lib.hid (Alike.of_data ((newR_data s b m A1 c1 g3).trans hd3.symm))
      have K2 := Lib.hid (K1.out.below hb3 K1.out.lt)
      have HN3 := Lib.hid (HNV1.out.belowS hb3)
      have HR3 := Lib.hid hr3
      have HB3 : Hid (Below w.heap.size w w3) := HBV1.out.trans (hb3.mono HBV1.out.size)
      have HLM : Hid (r.fh.length = m ∧ r.ah.length = m ∧ r.qh.length = 0) := by
        have h1 := HD.out.fl
        have h2 := HD.out.al
        have h3 := HD.out.ql
        exact ⟨h1.trans (freshF_length _ _), h2.trans (freshA_length _), h3⟩
      clear hb3 hd3 hr3
      obtain ⟨V, HV⟩ : ∃ U, Hid (w3.alloc (.cells #[.int .i64 s, .int .i64 b, .slice r.A1 m r.c1, .slice r.A2 0 r.c2, .slice r.A3 m r.c3, .slice r.A4 0 r.c4] 30) = U) := ⟨_, rfl⟩
      have KA : Hid (Blk V w2.heap.size 30 #[.int .i64 s, .int .i64 b, .slice A1 m c1, .slice none 0 0, .slice (some ⟨g3, 0, none⟩) m m, .slice none 0 0]) := by rw [← HV.out]; exact K2.out.alloc _
      have KB : Hid (Blk V w3.heap.size 30 #[.int .i64 s, .int .i64 b, .slice r.A1 m r.c1, .slice r.A2 0 r.c2, .slice r.A3 m r.c3, .slice r.A4 0 r.c4]) := by rw [← HV.out]; exact Blk.new _ _ _
      have HBV : Hid (Below w.heap.size w V) := by rw [← HV.out]; exact HB3.out.alloc HB3.out.size _
      have HNV : Hid (RunAt V V.heap.size (newR s m A1 c1 g3) []) := by rw [← HV.out]; exact HN3.out.allocS _
      have HRV : Hid (RunAt V V.heap.size r []) := by rw [← HV.out]; exact HR3.out.allocS _
      have CS := Lib.hid (sameRun_yes s b (newR s m A1 c1 g3) r [] V HNV.out HRV.out HD.out (n1 := m) (n2 := 0) (n3 := m) (n4 := 0) (freshF_length _ _) rfl (freshA_length _) rfl)
      obtain ⟨a0, a1, a2, a3, a4, a5⟩ := run_cells KA.out
      obtain ⟨b0, b1, b2, b3, b4, b5⟩ := run_cells KB.out
      have hza := KA.out.lt
      have hzb := KB.out.lt
      go_upto_region 6 with fail
      rw [HV.out]
      go_wp2_with fail
      refine CS.out.mono ?_
      rintro e w4 ⟨rfl, hb4⟩
      have HB4 : Hid (Below w.heap.size w w4) := HBV.out.trans (hb4.mono HBV.out.size)
      have KA4 := Lib.hid (KA.out.below hb4 hza)
      have HN4 := Lib.hid (HNV.out.belowS hb4)
      clear hb4 a0 a1 a2 a3 a4 a5 b0 b1 b2 b3 b4 b5 CS HN2 HN3 HNV1 HR3 HRV
      have hz4 := KA4.out.lt
      go_wp2
      go_loopw [10] (fun i wr => ∃ k : Nat, k ≤ m ∧ i = .int .i64 (k : Int) ∧ Hid (∃ q, wr = w4.drewN q)) (fun i _ => m - (intOf i).toNat)
      case atStart => exact ⟨0, Nat.zero_le _, rfl, ⟨0, rfl⟩⟩
      case round =>
        obtain ⟨k, hk, rfl, HQ⟩ := hrel
        have HQN : Hid (∀ x, ∃ q, wr.drewN x = w4.drewN q) := fun x => by obtain ⟨q, e⟩ := HQ.out; subst e; exact ⟨q + x, World.drewN_drewN _ _ _⟩
        have CEL : Hid (∀ x : Addr, wr.cell? x = w4.cell? x) := fun x => by obtain ⟨q, e⟩ := HQ.out; subst e; rfl
        obtain ⟨y0, y1, y2, y3, y4, y5⟩ := run_cells KA4.out
        have a2 := (CEL.out ⟨w2.heap.size, 2, none⟩).trans y2
        have hk0 : (0 : Int) ≤ (k : Int) := by omega
        by_cases hkm : k < m
        · have hki : (k : Int) < (m : Int) := by omega
          have hkz : k < (freshF (publicOr s) m).length := by rw [freshF_length]; exact hkm
          obtain ⟨cb, co, ea⟩ := HN4.out.r1.some_ (by show 0 < (freshF (publicOr s) m).length; omega)
          have cc := feed_cells6 (ea ▸ HN4.out.r1) k hkz
          have ef : fhth (freshF (publicOr s) m) k = ⟨newF (publicOr s), none, 0, none, 0⟩ := by unfold fhth freshF; rw [List.getD_eq_getElem?_getD, List.getElem?_replicate]; rw [if_pos hkm]; rfl
          have d0 := (CEL.out ⟨cb, co + k * 6, none⟩).trans cc.1
          have d4 := (CEL.out ⟨cb, co + k * 6 + 4, none⟩).trans cc.2.2.2.2.1
          have ea' : A1 = some ⟨cb, co, none⟩ := ea
          rw [ef] at d0 d4
          dsimp only [newF] at d0 d4
          rw [ea'] at a2
          obtain ⟨pu, HPU⟩ : ∃ x, Hid (publicOr s = x) := ⟨_, rfl⟩
          have CP := Lib.hid (fun U => public_any s U)
          rw [HPU.out] at d0 CP
          have hpb : (pu != pu) = false := by simp
          clear cc ef ea ea' hkz
          go_wp2_with fail
          go_quiet ((go_at_call 9; first | with_reducible exact Calls.quiet_of_same ((CP.out _).mono fun e w' h => ⟨h.1, h.2.symm⟩) | with_reducible exact Calls.quiet_of_same (CP.out _)))
          go_wp2
          go_roundw
          case rel => exact ⟨k + 1, by omega, by go_num, HQN.out _⟩
          case measure => simp [intOf]; omega
        · have hke : k = m := by omega
          subst hke
          have HBr : Hid (Below w.heap.size w wr) := by obtain ⟨q, e⟩ := HQ.out; subst e; exact below_drewN HB4.out q
          have KAr : Hid (Blk wr w2.heap.size 30 #[.int .i64 s, .int .i64 b, .slice A1 k c1, .slice none 0 0, .slice (some ⟨g3, 0, none⟩) k k, .slice none 0 0]) := by obtain ⟨q, e⟩ := HQ.out; subst e; exact KA4.out
          have HNr : Hid (RunAt wr wr.heap.size (newR s k A1 c1 g3) []) := by obtain ⟨q, e⟩ := HQ.out; subst e; exact HN4.out.belowS (below_drewN (Below.refl _ _) q)
          have CV := Lib.hid (worldV_any s b (newR s k A1 c1 g3) [] wr HNr.out (n := 0) (m := k) (q := k) rfl (freshF_length _ _) (freshA_length _))
          have HOK2 : Hid (OkW (dataW s b (newR s k A1 c1 g3) [])) := by rw [newR_data]; exact HOKW.out
          clear a2 y0 y1 y2 y3 y4 y5
          obtain ⟨a0, a1, a2, a3, a4, a5⟩ := run_cells KAr.out
          have hzr := KAr.out.lt
          go_wp2_with fail
          refine CV.out.mono ?_
          rintro e w5 ⟨res, rfl, hres, hb5⟩
          obtain rfl : res = true := hres.2 HOK2.out
          have HB5 : Hid (Below w.heap.size w w5) := HBr.out.trans (hb5.mono HBr.out.size)
          have KA5 := Lib.hid (KAr.out.below hb5 hzr)
          clear hres hb5 a0 a1 a2 a3 a4 a5
          obtain ⟨a0, a1, a2, a3, a4, a5⟩ := run_cells KA5.out
          have hkk : ((k : Int) == (k : Int)) = true := beq_self_eq_true _
          go_wp2
          go_ret
          exact ⟨by first | rfl | simp, HB5.out⟩
  · have h9 : 1048576 < len := by omega
    clear hlen
    go_enter Try.func3, Try.ntmps3
    go_wp2
    go_ret
    exact ⟨rfl, Below.refl _ _⟩
end Go.Proofs.Ytkmebilhbjcfpaa
