/- The walk of FnExactWorldNew: it returns true and changes nothing that was there. No conditions. -/
import Derived.Test.YtkmebilhbjcfpaaWorldNewP
import Derived.Test.YtkmebilhbjcfpaaSWorldNew
import Derived.Test.YtkmebilhbjcfpaaEqRun
import Derived.Test.YtkmebilhbjcfpaaMarkNew
namespace Go.Proofs.Ytkmebilhbjcfpaa
open Go.RowKit
set_option linter.unusedVariables false

theorem zeroRun2_at (w : World) : RunAt w w.heap.size ⟨none, 0, [], none, 0, none, 0, [], none, 0, []⟩ [] :=
  ⟨RowAt.nil, RowAt.nil, RowAt.nil, RowAt.nil, fun x hx => (by cases hx), fun x hx => (by cases hx), fun x hx => (by cases hx), Nat.zero_le _, Nat.zero_le _, Nat.zero_le _, Nat.zero_le _, fun _ => rfl, fun _ => rfl, fun _ => rfl, fun _ => rfl, Nat.zero_le _, Nat.zero_le _, Nat.zero_le _, Nat.zero_le _, Nat.zero_le _, Nat.zero_le _, Nat.zero_le _, Nat.zero_le _⟩
abbrev zeroRV2 : Value := .agg #[.int .i64 0, .int .i64 0, .slice none 0 0, .slice none 0 0, .slice none 0 0, .slice none 0 0]
theorem eqZero_any (w : World) : Calls Try.prog 11 #[zeroRV2, zeroRV2] w fun e w' => e = .returned (.bool true) ∧ Below w.heap.size w w' :=
  eqRun_yes 0 0 ⟨none, 0, [], none, 0, none, 0, [], none, 0, []⟩ ⟨none, 0, [], none, 0, none, 0, [], none, 0, []⟩ [] w (zeroRun2_at w) (zeroRun2_at w) (Alike.refl _) rfl rfl rfl rfl
theorem NewRun.below {w w' : World} {base : Nat} {sec : Int} {n : Nat} {A1 : Option Addr} {c1 g3 : Nat} (h : NewRun w base sec n A1 c1 g3) (hb : Below w.heap.size w w') : NewRun w' base sec n A1 c1 g3 := ⟨h.o1.below hb, h.o3.below hb, h.ne⟩
theorem NewRun.alloc {w : World} {base : Nat} {sec : Int} {n : Nat} {A1 : Option Addr} {c1 g3 : Nat} (h : NewRun w base sec n A1 c1 g3) (o : Obj) : NewRun (w.alloc o) base sec n A1 c1 g3 := ⟨h.o1.alloc o, h.o3.alloc o, h.ne⟩

set_option maxHeartbeats 8000000 in
set_option maxRecDepth 100000 in
theorem walkExactWorldNew_no (sec n bad : Int) (w : World) (hk : newOk sec n bad = false) :
    Calls Try.prog 4 #[.int .i64 sec, .int .i64 n, .int .i64 bad] w fun e w' => e = .returned (.bool true) ∧ Below w.heap.size w w' := by
  have C1 := Lib.hid (fun U => worldNew_no sec n bad U hk)
  have C2 := Lib.hid (fun U => sworldNew_no sec n bad U hk)
  clear hk
  go_enter Try.func4, Try.ntmps4
  go_wp2_with fail
  refine (C2.out _).mono ?_
  rintro e w1 ⟨rfl, hb1⟩
  have HB1 := Lib.hid hb1
  clear hb1
  obtain ⟨V1, HV1⟩ : ∃ U, Hid (w1.alloc (.cells #[.int .i64 0, .int .i64 0, .slice none 0 0, .slice none 0 0, .slice none 0 0, .slice none 0 0] 30) = U) := ⟨_, rfl⟩
  have K1 : Hid (Blk V1 w1.heap.size 30 #[.int .i64 0, .int .i64 0, .slice none 0 0, .slice none 0 0, .slice none 0 0, .slice none 0 0]) := by rw [← HV1.out]; exact Blk.new _ _ _
  have HBV1 : Hid (Below w.heap.size w V1) := by rw [← HV1.out]; exact HB1.out.alloc HB1.out.size _
  go_upto_region 2 with fail
  rw [HV1.out]
  go_wp2_with fail
  refine (C1.out _).mono ?_
  rintro e w2 ⟨rfl, hb2⟩
  have K2 := Lib.hid (K1.out.below hb2 K1.out.lt)
  have HB2 : Hid (Below w.heap.size w w2) := HBV1.out.trans (hb2.mono HBV1.out.size)
  clear hb2
  obtain ⟨V, HV⟩ : ∃ U, Hid (w2.alloc (.cells #[.int .i64 0, .int .i64 0, .slice none 0 0, .slice none 0 0, .slice none 0 0, .slice none 0 0] 30) = U) := ⟨_, rfl⟩
  have KA : Hid (Blk V w1.heap.size 30 #[.int .i64 0, .int .i64 0, .slice none 0 0, .slice none 0 0, .slice none 0 0, .slice none 0 0]) := by rw [← HV.out]; exact K2.out.alloc _
  have KB : Hid (Blk V w2.heap.size 30 #[.int .i64 0, .int .i64 0, .slice none 0 0, .slice none 0 0, .slice none 0 0, .slice none 0 0]) := by rw [← HV.out]; exact Blk.new _ _ _
  have HBV : Hid (Below w.heap.size w V) := by rw [← HV.out]; exact HB2.out.alloc HB2.out.size _
  obtain ⟨a0, a1, a2, a3, a4, a5⟩ := run_cells KA.out
  obtain ⟨b0, b1, b2, b3, b4, b5⟩ := run_cells KB.out
  go_upto_region 3 with fail
  rw [HV.out]
  go_wp2_with fail
  refine (eqZero_any _).mono ?_
  rintro e w3 ⟨rfl, hb3⟩
  have HB3 : Hid (Below w.heap.size w w3) := HBV.out.trans (hb3.mono HBV.out.size)
  have KA3 := Lib.hid (KA.out.below hb3 KA.out.lt)
  have KB3 := Lib.hid (KB.out.below hb3 KB.out.lt)
  clear hb3 a0 a1 a2 a3 a4 a5 b0 b1 b2 b3 b4 b5
  obtain ⟨a0, a1, a2, a3, a4, a5⟩ := run_cells KA3.out
  obtain ⟨b0, b1, b2, b3, b4, b5⟩ := run_cells KB3.out
  go_wp2_with fail
  refine (markZero_any _).mono ?_
  rintro e w4 ⟨rfl, hb4⟩
  have HB4 : Hid (Below w.heap.size w w4) := HB3.out.trans (hb4.mono HB3.out.size)
  have KA4 := Lib.hid (KA3.out.below hb4 KA3.out.lt)
  have KB4 := Lib.hid (KB3.out.below hb4 KB3.out.lt)
  clear hb4 a0 a1 a2 a3 a4 a5 b0 b1 b2 b3 b4 b5
  obtain ⟨a0, a1, a2, a3, a4, a5⟩ := run_cells KA4.out
  obtain ⟨b0, b1, b2, b3, b4, b5⟩ := run_cells KB4.out
  go_wp2_with fail
  refine (heldZero_any _).mono ?_
  rintro e w5 ⟨rfl, hb5⟩
  have HB5 : Hid (Below w.heap.size w w5) := HB4.out.trans (hb5.mono HB4.out.size)
  have KA5 := Lib.hid (KA4.out.below hb5 KA4.out.lt)
  have KB5 := Lib.hid (KB4.out.below hb5 KB4.out.lt)
  clear hb5 a0 a1 a2 a3 a4 a5 b0 b1 b2 b3 b4 b5
  obtain ⟨a0, a1, a2, a3, a4, a5⟩ := run_cells KA5.out
  obtain ⟨b0, b1, b2, b3, b4, b5⟩ := run_cells KB5.out
  go_wp2_with fail
  refine (C1.out _).mono ?_
  rintro e w6 ⟨rfl, hb6⟩
  have HB6 : Hid (Below w.heap.size w w6) := HB5.out.trans (hb6.mono HB5.out.size)
  have KA6 := Lib.hid (KA5.out.below hb6 KA5.out.lt)
  have KB6 := Lib.hid (KB5.out.below hb6 KB5.out.lt)
  clear hb6 a0 a1 a2 a3 a4 a5 b0 b1 b2 b3 b4 b5
  obtain ⟨V6, HV6⟩ : ∃ U, Hid (w6.alloc (.cells #[.int .i64 0, .int .i64 0, .slice none 0 0, .slice none 0 0, .slice none 0 0, .slice none 0 0] 30) = U) := ⟨_, rfl⟩
  have KA7 : Hid (Blk V6 w1.heap.size 30 #[.int .i64 0, .int .i64 0, .slice none 0 0, .slice none 0 0, .slice none 0 0, .slice none 0 0]) := by rw [← HV6.out]; exact KA6.out.alloc _
  have KB7 : Hid (Blk V6 w2.heap.size 30 #[.int .i64 0, .int .i64 0, .slice none 0 0, .slice none 0 0, .slice none 0 0, .slice none 0 0]) := by rw [← HV6.out]; exact KB6.out.alloc _
  have KC7 : Hid (Blk V6 w6.heap.size 30 #[.int .i64 0, .int .i64 0, .slice none 0 0, .slice none 0 0, .slice none 0 0, .slice none 0 0]) := by rw [← HV6.out]; exact Blk.new _ _ _
  have HBV6 : Hid (Below w.heap.size w V6) := by rw [← HV6.out]; exact HB6.out.alloc HB6.out.size _
  obtain ⟨a0, a1, a2, a3, a4, a5⟩ := run_cells KA7.out
  obtain ⟨b0, b1, b2, b3, b4, b5⟩ := run_cells KB7.out
  obtain ⟨c0, c1, c2, c3, c4, c5⟩ := run_cells KC7.out
  go_upto_region 14 with fail
  rw [HV6.out]
  go_wp2_with fail
  refine (eqZero_any _).mono ?_
  rintro e w7 ⟨rfl, hb7⟩
  have HB7 : Hid (Below w.heap.size w w7) := HBV6.out.trans (hb7.mono HBV6.out.size)
  have KB8 := Lib.hid (KB7.out.below hb7 KB7.out.lt)
  clear hb7 a0 a1 a2 a3 a4 a5 b0 b1 b2 b3 b4 b5 c0 c1 c2 c3 c4 c5
  obtain ⟨b0, b1, b2, b3, b4, b5⟩ := run_cells KB8.out
  go_wp2_with fail
  refine (heldZero_any _).mono ?_
  rintro e w8 ⟨rfl, hb8⟩
  have HB8 : Hid (Below w.heap.size w w8) := HB7.out.trans (hb8.mono HB7.out.size)
  clear hb8
  go_wp2
  go_ret
  exact ⟨rfl, HB8.out⟩

set_option maxHeartbeats 8000000 in
set_option maxRecDepth 100000 in
theorem walkExactWorldNew_yes (sec bad : Int) (n : Nat) (w : World) (hk : newOk sec (n : Int) bad = true) :
    Calls Try.prog 4 #[.int .i64 sec, .int .i64 (n : Int), .int .i64 bad] w fun e w' => e = .returned (.bool true) ∧ Below w.heap.size w w' := by
  have hn6 : 1 ≤ n ∧ n ≤ 6 := by have := ((newOk_iff _ _ _).1 hk).2.1; omega
  have C1 := Lib.hid (fun U => worldNew_yes sec bad n U hk)
  have C2 := Lib.hid (fun U => sworldNew_yes sec bad n U hk)
  clear hk
  go_enter Try.func4, Try.ntmps4
  go_wp2_with fail
  refine (C2.out _).mono ?_
  rintro e w1 ⟨r, rfl, hd1, hr1, hb1⟩
  have HD1 := Lib.hid hd1
  have HR1 := Lib.hid hr1
  have HB1 := Lib.hid hb1
  clear hb1 hd1 hr1
  obtain ⟨V1, HV1⟩ : ∃ U, Hid (w1.alloc (.cells #[.int .i64 sec, .int .i64 bad, .slice r.A1 n r.c1, .slice r.A2 0 r.c2, .slice r.A3 n r.c3, .slice r.A4 0 r.c4] 30) = U) := ⟨_, rfl⟩
  have K1 : Hid (Blk V1 w1.heap.size 30 #[.int .i64 sec, .int .i64 bad, .slice r.A1 n r.c1, .slice r.A2 0 r.c2, .slice r.A3 n r.c3, .slice r.A4 0 r.c4]) := by rw [← HV1.out]; exact Blk.new _ _ _
  have HBV1 : Hid (Below w.heap.size w V1) := by rw [← HV1.out]; exact HB1.out.alloc HB1.out.size _
  have HRV1 : Hid (RunAt V1 V1.heap.size r []) := by rw [← HV1.out]; exact HR1.out.allocS _
  go_upto_region 2 with fail
  rw [HV1.out]
  go_wp2_with fail
  refine (C1.out _).mono ?_
  rintro e w2 ⟨A1, c1, g3, rfl, hr2, hb2⟩
  have hform := hr2.o1.form (by rw [freshF_length]; omega)
  obtain ⟨b, rfl, hbb, hbl⟩ := hform
  have HN2 := Lib.hid hr2
  have HR2 := Lib.hid (HRV1.out.belowS hb2)
  have HRB2 : Hid (RunAt w2 V1.heap.size r []) := HRV1.out.below hb2 (Nat.le_refl _)
  have K2 := Lib.hid (K1.out.below hb2 K1.out.lt)
  have HB2 : Hid (Below w.heap.size w w2) := HBV1.out.trans (hb2.mono HBV1.out.size)
  have hz12 : V1.heap.size ≤ w2.heap.size := hb2.size
  have hw1V : w1.heap.size < V1.heap.size := K1.out.lt
  have HAL : Hid (Alike (newR sec n (some ⟨b, 0, none⟩) c1 g3) r) := Alike.of_data ((newR_data sec bad n _ c1 g3).trans HD1.out.symm)
  clear hb2 hr2
  obtain ⟨V, HV⟩ : ∃ U, Hid (w2.alloc (.cells #[.int .i64 sec, .int .i64 bad, .slice (some ⟨b, 0, none⟩) n c1, .slice none 0 0, .slice (some ⟨g3, 0, none⟩) n n, .slice none 0 0] 30) = U) := ⟨_, rfl⟩
  have KA : Hid (Blk V w1.heap.size 30 #[.int .i64 sec, .int .i64 bad, .slice r.A1 n r.c1, .slice r.A2 0 r.c2, .slice r.A3 n r.c3, .slice r.A4 0 r.c4]) := by rw [← HV.out]; exact K2.out.alloc _
  have KB : Hid (Blk V w2.heap.size 30 #[.int .i64 sec, .int .i64 bad, .slice (some ⟨b, 0, none⟩) n c1, .slice none 0 0, .slice (some ⟨g3, 0, none⟩) n n, .slice none 0 0]) := by rw [← HV.out]; exact Blk.new _ _ _
  have HBV : Hid (Below w.heap.size w V) := by rw [← HV.out]; exact HB2.out.alloc HB2.out.size _
  have HNV : Hid (NewRun V V1.heap.size sec n (some ⟨b, 0, none⟩) c1 g3) := by rw [← HV.out]; exact HN2.out.alloc _
  have HRV : Hid (RunAt V V.heap.size r []) := by rw [← HV.out]; exact HR2.out.allocS _
  have HRBV : Hid (RunAt V V1.heap.size r []) := by rw [← HV.out]; exact HRB2.out.below ((Below.refl _ _).alloc (Nat.le_refl _) _) hz12
  have CS := Lib.hid (eqRun_yes sec bad (newR sec n (some ⟨b, 0, none⟩) c1 g3) r [] V HNV.out.at_ HRV.out HAL.out (n1 := n) (n2 := 0) (n3 := n) (n4 := 0) (freshF_length _ _) rfl (freshA_length _) rfl)
  obtain ⟨a0, a1, a2, a3, a4, a5⟩ := run_cells KA.out
  obtain ⟨b0, b1, b2, b3, b4, b5⟩ := run_cells KB.out
  go_upto_region 3 with fail
  rw [HV.out]
  go_wp2_with fail
  refine CS.out.mono ?_
  rintro e w3 ⟨rfl, hb3⟩
  have HB3 : Hid (Below w.heap.size w w3) := HBV.out.trans (hb3.mono HBV.out.size)
  have KA3 := Lib.hid (KA.out.below hb3 KA.out.lt)
  have KB3 := Lib.hid (KB.out.below hb3 KB.out.lt)
  have HN3 := Lib.hid (HNV.out.below hb3)
  have HRB3 : Hid (RunAt w3 V1.heap.size r []) := HRBV.out.below hb3 (Nat.le_trans hz12 (by rw [← HV.out]; simp))
  clear hb3 a0 a1 a2 a3 a4 a5 b0 b1 b2 b3 b4 b5 CS
  obtain ⟨a0, a1, a2, a3, a4, a5⟩ := run_cells KA3.out
  obtain ⟨b0, b1, b2, b3, b4, b5⟩ := run_cells KB3.out
  have hzb3 := KB3.out.lt
  have CM := Lib.hid (markNew_any sec bad n b c1 g3 V1.heap.size w3 HN3.out hn6.2 (by omega))
  have hw2b : Hid (w2.heap.size ≠ b) := by show _ ≠ _; omega
  go_wp2_with fail
  refine CM.out.mono ?_
  rintro e w4 ⟨rfl, ho4, ha4, hb4, hh4⟩
  have HO4 := Lib.hid ho4
  have HA4 := Lib.hid ha4
  have HB4 : Hid (Below w.heap.size w w4) := HB3.out.trans (hb4.mono HBV1.out.size)
  have KA4 := Lib.hid (KA3.out.below hb4 hw1V)
  have KB4 : Hid (Blk w4 w2.heap.size 30 #[.int .i64 sec, .int .i64 bad, .slice (some ⟨b, 0, none⟩) n c1, .slice none 0 0, .slice (some ⟨g3, 0, none⟩) n n, .slice none 0 0]) := (hh4 w2.heap.size hzb3 hw2b.out).trans KB3.out
  have HRB4 : Hid (RunAt w4 V1.heap.size r []) := HRB3.out.below hb4 (Nat.le_refl _)
  have hz34 : w3.heap.size ≤ w4.heap.size := hb4.size
  clear ho4 ha4 hb4 hh4 a0 a1 a2 a3 a4 a5 b0 b1 b2 b3 b4 b5 CM
  obtain ⟨a0, a1, a2, a3, a4, a5⟩ := run_cells KA4.out
  obtain ⟨b0, b1, b2, b3, b4, b5⟩ := run_cells KB4.out
  obtain ⟨z, HZ⟩ : ∃ x : Int, Hid (((1 + 4 * n : Nat) : Int) = x) := ⟨_, rfl⟩
  have hz0 : 0 ≤ z := by have := HZ.out; omega
  have hzn : ¬ z < 0 := by omega
  have hzz : (z != z) = false := by simp
  have CH := Lib.hid (heldNew_any sec bad n b c1 g3 V1.heap.size w4 HO4.out HA4.out hn6.2)
  rw [HZ.out] at CH ⊢
  go_wp2_with fail
  refine CH.out.mono ?_
  rintro e w5 ⟨rfl, hb5⟩
  have HB5 : Hid (Below w.heap.size w w5) := HB4.out.trans (hb5.mono HB4.out.size)
  have KA5 := Lib.hid (KA4.out.below hb5 KA4.out.lt)
  have KB5 := Lib.hid (KB4.out.below hb5 KB4.out.lt)
  have HO5 := Lib.hid (HO4.out.below hb5)
  have HA5 := Lib.hid (HA4.out.below hb5)
  have HR5 : Hid (RunAt w5 w5.heap.size r []) := (HRB4.out.below hb5 (by omega)).more (by have := hb5.size; omega)
  clear hb5 a0 a1 a2 a3 a4 a5 b0 b1 b2 b3 b4 b5 CH
  obtain ⟨a0, a1, a2, a3, a4, a5⟩ := run_cells KA5.out
  obtain ⟨b0, b1, b2, b3, b4, b5⟩ := run_cells KB5.out
  go_wp2_with fail
  refine (C1.out _).mono ?_
  rintro e w6 ⟨B1, d1, h3, rfl, hr6, hb6⟩
  have HN6 := Lib.hid hr6
  have HB6 : Hid (Below w.heap.size w w6) := HB5.out.trans (hb6.mono HB5.out.size)
  have KA6 := Lib.hid (KA5.out.below hb6 KA5.out.lt)
  have KB6 := Lib.hid (KB5.out.below hb6 KB5.out.lt)
  have HO6 := Lib.hid (HO5.out.below hb6)
  have HA6 := Lib.hid (HA5.out.below hb6)
  have HR6 := Lib.hid (HR5.out.belowS hb6)
  have HAL6 : Hid (Alike (newR sec n B1 d1 h3) r) := Alike.of_data ((newR_data sec bad n _ d1 h3).trans HD1.out.symm)
  clear hb6 hr6 a0 a1 a2 a3 a4 a5 b0 b1 b2 b3 b4 b5
  obtain ⟨V6, HV6⟩ : ∃ U, Hid (w6.alloc (.cells #[.int .i64 sec, .int .i64 bad, .slice B1 n d1, .slice none 0 0, .slice (some ⟨h3, 0, none⟩) n n, .slice none 0 0] 30) = U) := ⟨_, rfl⟩
  have KA7 : Hid (Blk V6 w1.heap.size 30 #[.int .i64 sec, .int .i64 bad, .slice r.A1 n r.c1, .slice r.A2 0 r.c2, .slice r.A3 n r.c3, .slice r.A4 0 r.c4]) := by rw [← HV6.out]; exact KA6.out.alloc _
  have KB7 : Hid (Blk V6 w2.heap.size 30 #[.int .i64 sec, .int .i64 bad, .slice (some ⟨b, 0, none⟩) n c1, .slice none 0 0, .slice (some ⟨g3, 0, none⟩) n n, .slice none 0 0]) := by rw [← HV6.out]; exact KB6.out.alloc _
  have KC7 : Hid (Blk V6 w6.heap.size 30 #[.int .i64 sec, .int .i64 bad, .slice B1 n d1, .slice none 0 0, .slice (some ⟨h3, 0, none⟩) n n, .slice none 0 0]) := by rw [← HV6.out]; exact Blk.new _ _ _
  have HBV6 : Hid (Below w.heap.size w V6) := by rw [← HV6.out]; exact HB6.out.alloc HB6.out.size _
  have HO7 : Hid (OwnRow FK V6 V1.heap.size (some ⟨b, 0, none⟩) c1 (markFs n)) := by rw [← HV6.out]; exact HO6.out.alloc _
  have HA7 : Hid (OwnRow HK2 V6 V1.heap.size (some ⟨g3, 0, none⟩) n (freshA n)) := by rw [← HV6.out]; exact HA6.out.alloc _
  have HN7 : Hid (NewRun V6 w5.heap.size sec n B1 d1 h3) := by rw [← HV6.out]; exact HN6.out.alloc _
  have HR7 : Hid (RunAt V6 V6.heap.size r []) := by rw [← HV6.out]; exact HR6.out.allocS _
  have CS := Lib.hid (eqRun_yes sec bad (newR sec n B1 d1 h3) r [] V6 HN7.out.at_ HR7.out HAL6.out (n1 := n) (n2 := 0) (n3 := n) (n4 := 0) (freshF_length _ _) rfl (freshA_length _) rfl)
  obtain ⟨a0, a1, a2, a3, a4, a5⟩ := run_cells KA7.out
  obtain ⟨c0, c1', c2, c3, c4, c5⟩ := run_cells KC7.out
  go_upto_region 14 with fail
  rw [HV6.out]
  go_wp2_with fail
  refine CS.out.mono ?_
  rintro e w7 ⟨rfl, hb7⟩
  have HB7 : Hid (Below w.heap.size w w7) := HBV6.out.trans (hb7.mono HBV6.out.size)
  have KB8 := Lib.hid (KB7.out.below hb7 KB7.out.lt)
  have HO8 := Lib.hid (HO7.out.below hb7)
  have HA8 := Lib.hid (HA7.out.below hb7)
  clear hb7 a0 a1 a2 a3 a4 a5 c0 c1' c2 c3 c4 c5 CS
  obtain ⟨b0, b1, b2, b3, b4, b5⟩ := run_cells KB8.out
  have CH := Lib.hid (heldNew_any sec bad n b c1 g3 V1.heap.size w7 HO8.out HA8.out hn6.2)
  rw [HZ.out] at CH
  go_wp2_with fail
  refine CH.out.mono ?_
  rintro e w8 ⟨rfl, hb8⟩
  have HB8 : Hid (Below w.heap.size w w8) := HB7.out.trans (hb8.mono HB7.out.size)
  clear hb8
  go_wp2
  go_ret
  exact ⟨rfl, HB8.out⟩

theorem walkExactWorldNew (sec n bad : Int) (w : World) :
    Calls Try.prog 4 #[.int .i64 sec, .int .i64 n, .int .i64 bad] w fun e w' => e = .returned (.bool true) ∧ Below w.heap.size w w' := by
  cases hk : newOk sec n bad with
  | false => exact walkExactWorldNew_no sec n bad w hk
  | true =>
    obtain ⟨m, rfl⟩ : ∃ m : Nat, n = (m : Int) := ⟨n.toNat, by have := ((newOk_iff _ _ _).1 hk).2.1; omega⟩
    exact walkExactWorldNew_yes sec bad m w hk
end Go.Proofs.Ytkmebilhbjcfpaa
