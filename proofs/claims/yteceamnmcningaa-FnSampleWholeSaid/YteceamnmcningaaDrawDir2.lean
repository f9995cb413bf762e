/- Contracts of DrawDirectoryPut, DrawDirectorySweep, DrawDirectorySample: nodes in memory of the call's own, with numbers; nothing that was there is changed. Condition: the code's bytes lie in memory. -/
import Derived.Test.YteceamnmcningaaDrawDir
namespace Go.Proofs.Yteceamnmcningaa
open Go.RowKit
set_option linter.unusedVariables false

/-- Nodes, and two numbers in a range that is small. -/
def LPutDrawn (w : World) (e : Ending) (w' : World) : Prop :=
  ∃ X c xs, ∃ (a b : Int), e = .returned (.tuple #[.slice X xs.length c, .int .i64 a, .int .i64 b]) ∧ OwnRow LK w' w.heap.size X c xs ∧ xs.length ≤ 9 ∧ (-100 ≤ a ∧ a ≤ 100) ∧ (-1 ≤ b ∧ b ≤ 2000) ∧ Below w.heap.size w w'
/-- Nodes, and a number. -/
def LSweepDrawn (w : World) (e : Ending) (w' : World) : Prop :=
  ∃ X c xs, ∃ (b : Int), e = .returned (.tuple #[.slice X xs.length c, .int .i64 b]) ∧ OwnRow LK w' w.heap.size X c xs ∧ xs.length ≤ 9 ∧ (-1 ≤ b ∧ b ≤ 2000) ∧ Below w.heap.size w w'

set_option maxHeartbeats 4000000 in
set_option maxRecDepth 100000 in
theorem drawLPut_any (A : Option Addr) (len cap : Nat) (w : World) (hI : In w A len cap) :
    Calls Try.prog 15 #[.slice A len cap] w (LPutDrawn w) := by
  have HI := Lib.hid hI
  clear hI
  go_enter Try.func15, Try.ntmps15
  go_wp2_with fail
  refine (open_any A len cap _ HI.out).mono ?_
  rintro e w1 ⟨len', cap', rfl, hR1, hb1⟩
  have HR1 := Lib.hid hR1
  have HB1 : Hid (Below w.heap.size w w1) := hb1
  have hz1 : w.heap.size < w1.heap.size := HR1.out.lt
  clear hR1 hb1
  go_wp2_with fail
  refine (drawlis_any HR1.out (by omega)).mono ?_
  rintro e w2 ⟨X, c, xs, q2, rfl, ho2, hl, hq2, hR2, hg2⟩
  obtain ⟨n, HN⟩ : ∃ v, Hid (xs.length = v) := ⟨_, rfl⟩
  rw [HN.out] at hl ⊢
  have HR2 := Lib.hid hR2
  have HB2 : Hid (Below w.heap.size w w2) := HB1.out.grown hg2 HB1.out.size (fun i hi => by injection hi with hi; omega)
  have HO2 := Lib.hid ho2
  clear ho2 hg2 hR2
  go_wp2_with fail
  refine (pick_any 20 HR2.out (by omega) (by omega) (by omega)).mono ?_
  rintro e w3 ⟨x, hx, rfl, hR, hg, hz⟩
  have HB3 : Hid (Below w.heap.size w w3) := HB2.out.grown hg HB2.out.size (fun i hi => by injection hi with hi; omega)
  have HO3 := Lib.hid (HO2.out.keep hg (fun i hi => by injection hi with hi; omega))
  have HR3 := Lib.hid hR
  clear hR hg hz
  go_wp2_with fail
  refine (pick_any 20 HR3.out (by omega) (by omega) (by omega)).mono ?_
  rintro e w4 ⟨y, hy, rfl, hR, hg, hz⟩
  have HB4 : Hid (Below w.heap.size w w4) := HB3.out.grown hg HB3.out.size (fun i hi => by injection hi with hi; omega)
  have HO4 := Lib.hid (HO3.out.keep hg (fun i hi => by injection hi with hi; omega))
  have HR4 := Lib.hid hR
  clear hR hg hz
  obtain ⟨yq, Hyq⟩ : ∃ x, Hid (y / 19 = x) := ⟨_, rfl⟩
  have hyq1 : yq ≤ 1 := by rw [← Hyq.out]; omega
  have hyqt : ((y : Int)).tdiv 19 = (yq : Int) := by rw [Int.tdiv_eq_ediv_of_nonneg (by omega), ← Hyq.out]; simp
  have hyqw : IntKind.i64.wrap (yq : Int) = (yq : Int) := IntWalk.i64_in _ (by omega)
  go_wp2_with fail
  refine (pick_any 35 HR4.out (by omega) (by omega) (by omega)).mono ?_
  rintro e w5 ⟨a, ha, rfl, hR, hg, hz⟩
  have HB5 : Hid (Below w.heap.size w w5) := HB4.out.grown hg HB4.out.size (fun i hi => by injection hi with hi; omega)
  have HO5 := Lib.hid (HO4.out.keep hg (fun i hi => by injection hi with hi; omega))
  have HR5 := Lib.hid hR
  clear hR hg hz
  go_wp2_with fail
  refine (pick_any 24 HR5.out (by omega) (by omega) (by omega)).mono ?_
  rintro e w6 ⟨b, hb, rfl, hR, hg, hz⟩
  have HB6 : Hid (Below w.heap.size w w6) := HB5.out.grown hg HB5.out.size (fun i hi => by injection hi with hi; omega)
  have HO6 := Lib.hid (HO5.out.keep hg (fun i hi => by injection hi with hi; omega))
  have HR6 := Lib.hid hR
  clear hR hg hz
  obtain ⟨bq, Hbq⟩ : ∃ x, Hid (b / 23 = x) := ⟨_, rfl⟩
  have hbq1 : bq ≤ 1 := by rw [← Hbq.out]; omega
  have hbqt : ((b : Int)).tdiv 23 = (bq : Int) := by rw [Int.tdiv_eq_ediv_of_nonneg (by omega), ← Hbq.out]; simp
  have hbqw : IntKind.i64.wrap (bq : Int) = (bq : Int) := IntWalk.i64_in _ (by omega)
  have hw1 : IntKind.i64.wrap ((yq : Int) * 80) = (yq : Int) * 80 := IntWalk.i64_in _ (by omega)
  have hw2 : IntKind.i64.wrap ((x : Int) + (yq : Int) * 80) = (x : Int) + (yq : Int) * 80 := IntWalk.i64_in _ (by omega)
  have hw3 : IntKind.i64.wrap (15 + (a : Int)) = 15 + (a : Int) := IntWalk.i64_in _ (by omega)
  have hw4 : IntKind.i64.wrap ((bq : Int) * 960) = (bq : Int) * 960 := IntWalk.i64_in _ (by omega)
  have hw5 : IntKind.i64.wrap (15 + (a : Int) + (bq : Int) * 960) = 15 + (a : Int) + (bq : Int) * 960 := IntWalk.i64_in _ (by omega)
  go_wp2
  exact bodyPost_ret (v := .tuple #[.slice X n c, .int .i64 ((x : Int) + (yq : Int) * 80), .int .i64 (15 + (a : Int) + (bq : Int) * 960)]) (by simp [results, Try.results15, go_sem]) rfl ⟨X, c, xs, _, _, by rw [HN.out], HO6.out.base_le (by omega), by rw [HN.out]; exact hl, by omega, by omega, HB6.out⟩

set_option maxHeartbeats 4000000 in
set_option maxRecDepth 100000 in
theorem drawLSweep_any (A : Option Addr) (len cap : Nat) (w : World) (hI : In w A len cap) :
    Calls Try.prog 22 #[.slice A len cap] w (LSweepDrawn w) := by
  have HI := Lib.hid hI
  clear hI
  go_enter Try.func22, Try.ntmps22
  go_wp2_with fail
  refine (open_any A len cap _ HI.out).mono ?_
  rintro e w1 ⟨len', cap', rfl, hR1, hb1⟩
  have HR1 := Lib.hid hR1
  have HB1 : Hid (Below w.heap.size w w1) := hb1
  have hz1 : w.heap.size < w1.heap.size := HR1.out.lt
  clear hR1 hb1
  go_wp2_with fail
  refine (drawlis_any HR1.out (by omega)).mono ?_
  rintro e w2 ⟨X, c, xs, q2, rfl, ho2, hl, hq2, hR2, hg2⟩
  obtain ⟨n, HN⟩ : ∃ v, Hid (xs.length = v) := ⟨_, rfl⟩
  rw [HN.out] at hl ⊢
  have HR2 := Lib.hid hR2
  have HB2 : Hid (Below w.heap.size w w2) := HB1.out.grown hg2 HB1.out.size (fun i hi => by injection hi with hi; omega)
  have HO2 := Lib.hid ho2
  clear ho2 hg2 hR2
  go_wp2_with fail
  refine (pick_any 35 HR2.out (by omega) (by omega) (by omega)).mono ?_
  rintro e w3 ⟨a, ha, rfl, hR, hg, hz⟩
  have HB3 : Hid (Below w.heap.size w w3) := HB2.out.grown hg HB2.out.size (fun i hi => by injection hi with hi; omega)
  have HO3 := Lib.hid (HO2.out.keep hg (fun i hi => by injection hi with hi; omega))
  have HR3 := Lib.hid hR
  clear hR hg hz
  go_wp2_with fail
  refine (pick_any 24 HR3.out (by omega) (by omega) (by omega)).mono ?_
  rintro e w4 ⟨b, hb, rfl, hR, hg, hz⟩
  have HB4 : Hid (Below w.heap.size w w4) := HB3.out.grown hg HB3.out.size (fun i hi => by injection hi with hi; omega)
  have HO4 := Lib.hid (HO3.out.keep hg (fun i hi => by injection hi with hi; omega))
  have HR4 := Lib.hid hR
  clear hR hg hz
  obtain ⟨bq, Hbq⟩ : ∃ x, Hid (b / 23 = x) := ⟨_, rfl⟩
  have hbq1 : bq ≤ 1 := by rw [← Hbq.out]; omega
  have hbqt : ((b : Int)).tdiv 23 = (bq : Int) := by rw [Int.tdiv_eq_ediv_of_nonneg (by omega), ← Hbq.out]; simp
  have hbqw : IntKind.i64.wrap (bq : Int) = (bq : Int) := IntWalk.i64_in _ (by omega)
  have hw3 : IntKind.i64.wrap (15 + (a : Int)) = 15 + (a : Int) := IntWalk.i64_in _ (by omega)
  have hw4 : IntKind.i64.wrap ((bq : Int) * 960) = (bq : Int) * 960 := IntWalk.i64_in _ (by omega)
  have hw5 : IntKind.i64.wrap (15 + (a : Int) + (bq : Int) * 960) = 15 + (a : Int) + (bq : Int) * 960 := IntWalk.i64_in _ (by omega)
  go_wp2
  exact bodyPost_ret (v := .tuple #[.slice X n c, .int .i64 (15 + (a : Int) + (bq : Int) * 960)]) (by simp [results, Try.results22, go_sem]) rfl ⟨X, c, xs, _, by rw [HN.out], HO4.out.base_le (by omega), by rw [HN.out]; exact hl, by omega, HB4.out⟩

set_option maxHeartbeats 4000000 in
set_option maxRecDepth 100000 in
theorem drawLSample_any (A : Option Addr) (len cap : Nat) (w : World) (hI : In w A len cap) :
    Calls Try.prog 25 #[.slice A len cap] w (LPutDrawn w) := by
  have HI := Lib.hid hI
  clear hI
  go_enter Try.func25, Try.ntmps25
  go_wp2_with fail
  refine (open_any A len cap _ HI.out).mono ?_
  rintro e w1 ⟨len', cap', rfl, hR1, hb1⟩
  have HR1 := Lib.hid hR1
  have HB1 : Hid (Below w.heap.size w w1) := hb1
  have hz1 : w.heap.size < w1.heap.size := HR1.out.lt
  clear hR1 hb1
  go_wp2_with fail
  refine (drawlis_any HR1.out (by omega)).mono ?_
  rintro e w2 ⟨X, c, xs, q2, rfl, ho2, hl, hq2, hR2, hg2⟩
  obtain ⟨n, HN⟩ : ∃ v, Hid (xs.length = v) := ⟨_, rfl⟩
  rw [HN.out] at hl ⊢
  have HR2 := Lib.hid hR2
  have HB2 : Hid (Below w.heap.size w w2) := HB1.out.grown hg2 HB1.out.size (fun i hi => by injection hi with hi; omega)
  have HO2 := Lib.hid ho2
  clear ho2 hg2 hR2
  go_wp2_with fail
  refine (pick_any 40 HR2.out (by omega) (by omega) (by omega)).mono ?_
  rintro e w3 ⟨x, hx, rfl, hR, hg, hz⟩
  have HB3 : Hid (Below w.heap.size w w3) := HB2.out.grown hg HB2.out.size (fun i hi => by injection hi with hi; omega)
  have HO3 := Lib.hid (HO2.out.keep hg (fun i hi => by injection hi with hi; omega))
  have HR3 := Lib.hid hR
  clear hR hg hz
  go_wp2_with fail
  refine (pick_any 20 HR3.out (by omega) (by omega) (by omega)).mono ?_
  rintro e w4 ⟨y, hy, rfl, hR, hg, hz⟩
  have HB4 : Hid (Below w.heap.size w w4) := HB3.out.grown hg HB3.out.size (fun i hi => by injection hi with hi; omega)
  have HO4 := Lib.hid (HO3.out.keep hg (fun i hi => by injection hi with hi; omega))
  have HR4 := Lib.hid hR
  clear hR hg hz
  obtain ⟨yq, Hyq⟩ : ∃ x, Hid (y / 19 = x) := ⟨_, rfl⟩
  have hyq1 : yq ≤ 1 := by rw [← Hyq.out]; omega
  have hyqt : ((y : Int)).tdiv 19 = (yq : Int) := by rw [Int.tdiv_eq_ediv_of_nonneg (by omega), ← Hyq.out]; simp
  have hyqw : IntKind.i64.wrap (yq : Int) = (yq : Int) := IntWalk.i64_in _ (by omega)
  go_wp2_with fail
  refine (pick_any 10 HR4.out (by omega) (by omega) (by omega)).mono ?_
  rintro e w5 ⟨a, ha, rfl, hR, hg, hz⟩
  have HB5 : Hid (Below w.heap.size w w5) := HB4.out.grown hg HB4.out.size (fun i hi => by injection hi with hi; omega)
  have HO5 := Lib.hid (HO4.out.keep hg (fun i hi => by injection hi with hi; omega))
  have HR5 := Lib.hid hR
  clear hR hg hz
  have hw1 : IntKind.i64.wrap ((yq : Int) * 41) = (yq : Int) * 41 := IntWalk.i64_in _ (by omega)
  have hw2 : IntKind.i64.wrap ((x : Int) - (yq : Int) * 41) = (x : Int) - (yq : Int) * 41 := IntWalk.i64_in _ (by omega)
  have hw3 : IntKind.i64.wrap ((a : Int) - 1) = (a : Int) - 1 := IntWalk.i64_in _ (by omega)
  go_wp2
  exact bodyPost_ret (v := .tuple #[.slice X n c, .int .i64 ((x : Int) - (yq : Int) * 41), .int .i64 ((a : Int) - 1)]) (by simp [results, Try.results25, go_sem]) rfl ⟨X, c, xs, _, _, by rw [HN.out], HO5.out.base_le (by omega), by rw [HN.out]; exact hl, by omega, by omega, HB5.out⟩

end Go.Proofs.Yteceamnmcningaa
