/- Cases of the model of FeedValid: it changes nothing that was there. Condition: the feed lies in memory. Cases of the model of FeedValid: it changes nothing that was there. Condition: the feed lies in memory. -/
import Derived.Test.YtkmebilhbjcfpaaGreatBaseA
import Derived.Test.YtkmebilhbjcfpaaGreatSFeedWhole
namespace Go.Proofs.YtkmebilhbjcfpaaGreat
open Go.RowKit
set_option linter.unusedVariables false

set_option maxHeartbeats 8000000 in
set_option maxRecDepth 100000 in
theorem sfv_key (p l d s : Int) (A1 : Option Addr) (n1 c1 : Nat) (A2 : Option Addr) (n2 c2 : Nat) (w : World) (h : ¬ (1 ≤ p ∧ p < 997)) :
    Calls Tryz.prog 21 #[feedV p l d s A1 n1 c1 A2 n2 c2] w fun e w' => e = .returned (.bool false) ∧ Below w.heap.size w w' := by
  have H := Lib.hid h
  clear h
  obtain ⟨W, HW⟩ : ∃ W, Hid (w.alloc (.cells (feedC p l d s A1 n1 c1 A2 n2 c2) 56) = W) := ⟨_, rfl⟩
  have HK : Hid (Blk W w.heap.size 56 (feedC p l d s A1 n1 c1 A2 n2 c2)) := by rw [← HW.out]; exact Blk.new w _ _
  have HB : Hid (Below w.heap.size w W) := by rw [← HW.out]; exact (Below.refl _ w).alloc (Nat.le_refl _) _
  have hzW : w.heap.size < W.heap.size := HK.out.lt
  obtain ⟨k0, k1, k2, k3, k4, k5⟩ := feed_cells HK.out
  go_enter Tryz.func21, Tryz.ntmps21
  go_wp2_with fail
  rw [HW.out]
  refine wp_region_held_drew (S := (fun w' => w'.cell? ⟨w.heap.size, 0, none⟩ = some (.int .i64 p) ∧ w'.cell? ⟨w.heap.size, 1, none⟩ = some (.int .i64 l) ∧ w'.cell? ⟨w.heap.size, 2, none⟩ = some (.int .i64 d) ∧ w'.cell? ⟨w.heap.size, 3, none⟩ = some (.int .i64 s) ∧ w'.cell? ⟨w.heap.size, 4, none⟩ = some (.slice A1 n1 c1) ∧ w'.cell? ⟨w.heap.size, 5, none⟩ = some (.slice A2 n2 c2))) (by kernel_rfl) (feed_cells HK.out) (fun hHeld => ?_)
  refine wtk 0 ?zv1 4 rfl rfl (by kernel_rfl) (fun _ _ _ h => h) (by kernel_rfl) ?zy1 (by assumption) ?zr1
  case zy1 => (intro w hSw; (try dsimp only at hSw); go_simp; try with_reducible rfl)
  simp only [Act.put, aput]
  refine wtk 1 ?zv2 5 rfl rfl (by kernel_rfl) (fun _ _ _ h => h) (by kernel_rfl) ?zy2 (by assumption) ?zr2
  case zy2 => (intro w hSw; (try dsimp only at hSw); go_simp; try with_reducible rfl)
  simp only [Act.put, aput]
  refine wpAnyH_ready (rs := [2]) (by kernel_rfl) (by simp) (AllReadyH.cons rfl (fun K hK => ?_) AllReadyH.nil)
  go_simp
  go_at_call 50
  refine (skey_no _ _ H.out).mono ?_
  rintro e w' ⟨rfl, rfl⟩
  refine hK.out _ _ (feed_cells HK.out) (fun hHeld => ?_)
  clear hK K
  (try simp only [Act.put, aput])
  refine wtk 3 ?zv3 7 rfl rfl (by kernel_rfl) (fun _ _ _ h => h) (by kernel_rfl) ?zy3 (by assumption) ?zr3
  case zy3 => (intro w hSw; (try dsimp only at hSw); go_simp; try with_reducible rfl)
  simp only [Act.put, aput]
  refine wtk 4 ?zv4 8 rfl rfl (by kernel_rfl) (fun _ _ _ h => h) (by kernel_rfl) ?zy4 (by assumption) ?zr4
  case zy4 => (intro w hSw; (try dsimp only at hSw); go_simp; try with_reducible rfl)
  simp only [Act.put, aput]
  refine wtu 5 9 rfl rfl (by kernel_rfl) (fun _ _ _ h => h) (by kernel_rfl) (by assumption) ?_
  simp only [Act.put, aput]
  refine wtu 6 10 rfl rfl (by kernel_rfl) (fun _ _ _ h => h) (by kernel_rfl) (by assumption) ?_
  simp only [Act.put, aput]
  refine wtu 7 11 rfl rfl (by kernel_rfl) (fun _ _ _ h => h) (by kernel_rfl) (by assumption) ?_
  simp only [Act.put, aput]
  refine wtu 8 12 rfl rfl (by kernel_rfl) (fun _ _ _ h => h) (by kernel_rfl) (by assumption) ?_
  simp only [Act.put, aput]
  refine wtu 9 13 rfl rfl (by kernel_rfl) (fun _ _ _ h => h) (by kernel_rfl) (by assumption) ?_
  simp only [Act.put, aput]
  refine wtu 10 14 rfl rfl (by kernel_rfl) (fun _ _ _ h => h) (by kernel_rfl) (by assumption) ?_
  simp only [Act.put, aput]
  refine wtu 11 15 rfl rfl (by kernel_rfl) (fun _ _ _ h => h) (by kernel_rfl) (by assumption) ?_
  simp only [Act.put, aput]
  refine wtu 12 16 rfl rfl (by kernel_rfl) (fun _ _ _ h => h) (by kernel_rfl) (by assumption) ?_
  simp only [Act.put, aput]
  refine wtu 13 17 rfl rfl (by kernel_rfl) (fun _ _ _ h => h) (by kernel_rfl) (by assumption) ?_
  simp only [Act.put, aput]
  refine wtu 14 18 rfl rfl (by kernel_rfl) (fun _ _ _ h => h) (by kernel_rfl) (by assumption) ?_
  simp only [Act.put, aput]
  refine wtu 15 19 rfl rfl (by kernel_rfl) (fun _ _ _ h => h) (by kernel_rfl) (by assumption) ?_
  simp only [Act.put, aput]
  refine wtu 16 20 rfl rfl (by kernel_rfl) (fun _ _ _ h => h) (by kernel_rfl) (by assumption) ?_
  simp only [Act.put, aput]
  refine wtk 17 ?zv5 21 rfl rfl (by kernel_rfl) (fun _ _ _ h => h) (by kernel_rfl) ?zy5 (by assumption) ?zr5
  case zy5 => (intro w hSw; (try dsimp only at hSw); go_simp; try with_reducible rfl)
  simp only [Act.put, aput]
  refine wtk 18 ?zv6 22 rfl rfl (by kernel_rfl) (fun _ _ _ h => h) (by kernel_rfl) ?zy6 (by assumption) ?zr6
  case zy6 => (intro w hSw; (try dsimp only at hSw); go_simp; try with_reducible rfl)
  simp only [Act.put, aput]
  refine wtu 19 23 rfl rfl (by kernel_rfl) (fun _ _ _ h => h) (by kernel_rfl) (by assumption) ?_
  simp only [Act.put, aput]
  refine wtu 20 24 rfl rfl (by kernel_rfl) (fun _ _ _ h => h) (by kernel_rfl) (by assumption) ?_
  simp only [Act.put, aput]
  refine wtu 21 25 rfl rfl (by kernel_rfl) (fun _ _ _ h => h) (by kernel_rfl) (by assumption) ?_
  simp only [Act.put, aput]
  refine wtu 22 26 rfl rfl (by kernel_rfl) (fun _ _ _ h => h) (by kernel_rfl) (by assumption) ?_
  simp only [Act.put, aput]
  refine wtu 23 27 rfl rfl (by kernel_rfl) (fun _ _ _ h => h) (by kernel_rfl) (by assumption) ?_
  simp only [Act.put, aput]
  refine wtu 24 28 rfl rfl (by kernel_rfl) (fun _ _ _ h => h) (by kernel_rfl) (by assumption) ?_
  simp only [Act.put, aput]
  refine wtu 25 29 rfl rfl (by kernel_rfl) (fun _ _ _ h => h) (by kernel_rfl) (by assumption) ?_
  simp only [Act.put, aput]
  refine wtk 26 ?zv7 30 rfl rfl (by kernel_rfl) (fun _ _ _ h => h) (by kernel_rfl) ?zy7 (by assumption) ?zr7
  case zy7 => (intro w hSw; (try dsimp only at hSw); go_simp; try with_reducible rfl)
  simp only [Act.put, aput]
  refine wtk 27 ?zv8 31 rfl rfl (by kernel_rfl) (fun _ _ _ h => h) (by kernel_rfl) ?zy8 (by assumption) ?zr8
  case zy8 => (intro w hSw; (try dsimp only at hSw); go_simp; try with_reducible rfl)
  simp only [Act.put, aput]
  refine wtu 28 32 rfl rfl (by kernel_rfl) (fun _ _ _ h => h) (by kernel_rfl) (by assumption) ?_
  simp only [Act.put, aput]
  refine wtu 29 33 rfl rfl (by kernel_rfl) (fun _ _ _ h => h) (by kernel_rfl) (by assumption) ?_
  simp only [Act.put, aput]
  refine wtu 30 34 rfl rfl (by kernel_rfl) (fun _ _ _ h => h) (by kernel_rfl) (by assumption) ?_
  simp only [Act.put, aput]
  refine wtu 31 35 rfl rfl (by kernel_rfl) (fun _ _ _ h => h) (by kernel_rfl) (by assumption) ?_
  simp only [Act.put, aput]
  refine wtu 32 36 rfl rfl (by kernel_rfl) (fun _ _ _ h => h) (by kernel_rfl) (by assumption) ?_
  simp only [Act.put, aput]
  refine wtu 33 37 rfl rfl (by kernel_rfl) (fun _ _ _ h => h) (by kernel_rfl) (by assumption) ?_
  simp only [Act.put, aput]
  refine wtu 34 38 rfl rfl (by kernel_rfl) (fun _ _ _ h => h) (by kernel_rfl) (by assumption) ?_
  simp only [Act.put, aput]
  refine wtk 35 ?zv9 39 rfl rfl (by kernel_rfl) (fun _ _ _ h => h) (by kernel_rfl) ?zy9 (by assumption) ?zr9
  case zy9 => (intro w hSw; (try dsimp only at hSw); go_simp; try with_reducible rfl)
  simp only [Act.put, aput]
  refine wpAnyH_done (by kernel_rfl) ?_ _
  have HBE : Hid (Below w.heap.size w W.drew) := below_drew HB.out
  go_wp2
  go_ret
  exact ⟨rfl, HBE.out⟩

set_option maxHeartbeats 8000000 in
set_option maxRecDepth 100000 in
theorem sfv_unsignedA (p l d s : Int) (A1 : Option Addr) (n1 c1 : Nat) (A2 : Option Addr) (n2 c2 : Nat) (w : World) (h0 : 1 ≤ p) (h1 : p < 997) (hx : ¬ l = 0) (hS : signedB p l d s = false) :
    Calls Tryz.prog 21 #[feedV p l d s A1 n1 c1 A2 n2 c2] w fun e w' => e = .returned (.bool false) ∧ Below w.heap.size w w' := by
  have HS := Lib.hid hS
  clear hS
  obtain ⟨W, HW⟩ : ∃ W, Hid (w.alloc (.cells (feedC p l d s A1 n1 c1 A2 n2 c2) 56) = W) := ⟨_, rfl⟩
  have HK : Hid (Blk W w.heap.size 56 (feedC p l d s A1 n1 c1 A2 n2 c2)) := by rw [← HW.out]; exact Blk.new w _ _
  have HB : Hid (Below w.heap.size w W) := by rw [← HW.out]; exact (Below.refl _ w).alloc (Nat.le_refl _) _
  have hzW : w.heap.size < W.heap.size := HK.out.lt
  obtain ⟨k0, k1, k2, k3, k4, k5⟩ := feed_cells HK.out
  go_enter Tryz.func21, Tryz.ntmps21
  go_wp2_with fail
  rw [HW.out]
  refine wp_region_held_drew (S := (fun w' => w'.cell? ⟨w.heap.size, 0, none⟩ = some (.int .i64 p) ∧ w'.cell? ⟨w.heap.size, 1, none⟩ = some (.int .i64 l) ∧ w'.cell? ⟨w.heap.size, 2, none⟩ = some (.int .i64 d) ∧ w'.cell? ⟨w.heap.size, 3, none⟩ = some (.int .i64 s) ∧ w'.cell? ⟨w.heap.size, 4, none⟩ = some (.slice A1 n1 c1) ∧ w'.cell? ⟨w.heap.size, 5, none⟩ = some (.slice A2 n2 c2))) (by kernel_rfl) (feed_cells HK.out) (fun hHeld => ?_)
  refine wtk 0 ?zv10 4 rfl rfl (by kernel_rfl) (fun _ _ _ h => h) (by kernel_rfl) ?zy10 (by assumption) ?zr10
  case zy10 => (intro w hSw; (try dsimp only at hSw); go_simp; try with_reducible rfl)
  simp only [Act.put, aput]
  refine wtk 1 ?zv11 5 rfl rfl (by kernel_rfl) (fun _ _ _ h => h) (by kernel_rfl) ?zy11 (by assumption) ?zr11
  case zy11 => (intro w hSw; (try dsimp only at hSw); go_simp; try with_reducible rfl)
  simp only [Act.put, aput]
  refine wpAnyH_ready (rs := [2]) (by kernel_rfl) (by simp) (AllReadyH.cons rfl (fun K hK => ?_) AllReadyH.nil)
  go_simp
  go_at_call 50
  refine (skey_yes _ _ h0 h1).mono ?_
  rintro e w' ⟨rfl, rfl⟩
  refine hK.out _ _ (feed_cells HK.out) (fun hHeld => ?_)
  clear hK K
  (try simp only [Act.put, aput])
  refine wtk 3 ?zv12 7 rfl rfl (by kernel_rfl) (fun _ _ _ h => h) (by kernel_rfl) ?zy12 (by assumption) ?zr12
  case zy12 => (intro w hSw; (try dsimp only at hSw); go_simp; try with_reducible rfl)
  simp only [Act.put, aput]
  refine wtk 4 ?zv13 8 rfl rfl (by kernel_rfl) (fun _ _ _ h => h) (by kernel_rfl) ?zy13 (by assumption) ?zr13
  case zy13 => (intro w hSw; (try dsimp only at hSw); go_simp; try with_reducible rfl)
  simp only [Act.put, aput]
  refine wtk 5 ?zv14 9 rfl rfl (by kernel_rfl) (fun _ _ _ h => h) (by kernel_rfl) ?zy14 (by assumption) ?zr14
  case zy14 => (intro w hSw; (try dsimp only at hSw); go_simp; try with_reducible rfl)
  simp only [Act.put, aput]
  refine wtk 6 ?zv15 10 rfl rfl (by kernel_rfl) (fun _ _ _ h => h) (by kernel_rfl) ?zy15 (by assumption) ?zr15
  case zy15 => (intro w hSw; (try dsimp only at hSw); go_simp; try with_reducible rfl)
  simp only [Act.put, aput]
  refine wpAnyH_ready (rs := [7]) (by kernel_rfl) (by simp) (AllReadyH.cons rfl (fun K hK => ?_) AllReadyH.nil)
  go_simp
  go_at_call 54
  refine (empty_any _).mono ?_
  rintro e w1 ⟨rfl, hb1⟩
  have HB1 : Hid (Below W.heap.size W w1) := below_drew_l hb1
  have HK1 := Lib.hid (HK.out.below HB1.out hzW)
  clear hb1
  refine hK.out _ _ (feed_cells HK1.out) (fun hHeld => ?_)
  clear hK K
  (try simp only [Act.put, aput])
  refine wtk 8 ?zv16 12 rfl rfl (by kernel_rfl) (fun _ _ _ h => h) (by kernel_rfl) ?zy16 (by assumption) ?zr16
  case zy16 => (intro w hSw; (try dsimp only at hSw); go_simp; try with_reducible rfl)
  simp only [Act.put, aput]
  refine wtk 9 ?zv17 13 rfl rfl (by kernel_rfl) (fun _ _ _ h => h) (by kernel_rfl) ?zy17 (by assumption) ?zr17
  case zy17 => (intro w hSw; (try dsimp only at hSw); go_simp; try with_reducible rfl)
  simp only [Act.put, aput]
  refine wtk 10 ?zv18 14 rfl rfl (by kernel_rfl) (fun _ _ _ h => h) (by kernel_rfl) ?zy18 (by assumption) ?zr18
  case zy18 => (intro w hSw; (try dsimp only at hSw); go_simp; try with_reducible rfl)
  simp only [Act.put, aput]
  refine wtk 11 ?zv19 15 rfl rfl (by kernel_rfl) (fun _ _ _ h => h) (by kernel_rfl) ?zy19 (by assumption) ?zr19
  case zy19 => (intro w hSw; (try dsimp only at hSw); go_simp; try with_reducible rfl)
  simp only [Act.put, aput]
  refine wtk 12 ?zv20 16 rfl rfl (by kernel_rfl) (fun _ _ _ h => h) (by kernel_rfl) ?zy20 (by assumption) ?zr20
  case zy20 => (intro w hSw; (try dsimp only at hSw); go_simp; try with_reducible rfl)
  simp only [Act.put, aput]
  refine wtk 13 ?zv21 17 rfl rfl (by kernel_rfl) (fun _ _ _ h => h) (by kernel_rfl) ?zy21 (by assumption) ?zr21
  case zy21 => (intro w hSw; (try dsimp only at hSw); go_simp; try with_reducible rfl)
  simp only [Act.put, aput]
  refine wpAnyH_ready (rs := [14]) (by kernel_rfl) (by simp) (AllReadyH.cons rfl (fun K hK => ?_) AllReadyH.nil)
  go_simp
  go_at_call 55
  refine (scheck_any p l d s _).mono ?_
  rintro e w2 ⟨rfl, hb2⟩
  rw [HS.out]
  have HB2 := Lib.hid hb2
  have HK2 := Lib.hid (HK1.out.below HB2.out (Nat.lt_of_lt_of_le hzW HB1.out.size))
  clear hb2
  refine hK.out _ _ (feed_cells HK2.out) (fun hHeld => ?_)
  clear hK K
  (try simp only [Act.put, aput])
  refine wtk 15 ?zv22 19 rfl rfl (by kernel_rfl) (fun _ _ _ h => h) (by kernel_rfl) ?zy22 (by assumption) ?zr22
  case zy22 => (intro w hSw; (try dsimp only at hSw); go_simp; try with_reducible rfl)
  simp only [Act.put, aput]
  refine wtk 16 ?zv23 20 rfl rfl (by kernel_rfl) (fun _ _ _ h => h) (by kernel_rfl) ?zy23 (by assumption) ?zr23
  case zy23 => (intro w hSw; (try dsimp only at hSw); go_simp; try with_reducible rfl)
  simp only [Act.put, aput]
  refine wtk 17 ?zv24 21 rfl rfl (by kernel_rfl) (fun _ _ _ h => h) (by kernel_rfl) ?zy24 (by assumption) ?zr24
  case zy24 => (intro w hSw; (try dsimp only at hSw); go_simp; try with_reducible rfl)
  simp only [Act.put, aput]
  refine wtk 18 ?zv25 22 rfl rfl (by kernel_rfl) (fun _ _ _ h => h) (by kernel_rfl) ?zy25 (by assumption) ?zr25
  case zy25 => (intro w hSw; (try dsimp only at hSw); go_simp; try with_reducible rfl)
  simp only [Act.put, aput]
  refine wtu 19 23 rfl rfl (by kernel_rfl) (fun _ _ _ h => h) (by kernel_rfl) (by assumption) ?_
  simp only [Act.put, aput]
  refine wtu 20 24 rfl rfl (by kernel_rfl) (fun _ _ _ h => h) (by kernel_rfl) (by assumption) ?_
  simp only [Act.put, aput]
  refine wtu 21 25 rfl rfl (by kernel_rfl) (fun _ _ _ h => h) (by kernel_rfl) (by assumption) ?_
  simp only [Act.put, aput]
  refine wtu 22 26 rfl rfl (by kernel_rfl) (fun _ _ _ h => h) (by kernel_rfl) (by assumption) ?_
  simp only [Act.put, aput]
  refine wtu 23 27 rfl rfl (by kernel_rfl) (fun _ _ _ h => h) (by kernel_rfl) (by assumption) ?_
  simp only [Act.put, aput]
  refine wtu 24 28 rfl rfl (by kernel_rfl) (fun _ _ _ h => h) (by kernel_rfl) (by assumption) ?_
  simp only [Act.put, aput]
  refine wtu 25 29 rfl rfl (by kernel_rfl) (fun _ _ _ h => h) (by kernel_rfl) (by assumption) ?_
  simp only [Act.put, aput]
  refine wtk 26 ?zv26 30 rfl rfl (by kernel_rfl) (fun _ _ _ h => h) (by kernel_rfl) ?zy26 (by assumption) ?zr26
  case zy26 => (intro w hSw; (try dsimp only at hSw); go_simp; try with_reducible rfl)
  simp only [Act.put, aput]
  refine wtk 27 ?zv27 31 rfl rfl (by kernel_rfl) (fun _ _ _ h => h) (by kernel_rfl) ?zy27 (by assumption) ?zr27
  case zy27 => (intro w hSw; (try dsimp only at hSw); go_simp; try with_reducible rfl)
  simp only [Act.put, aput]
  refine wtu 28 32 rfl rfl (by kernel_rfl) (fun _ _ _ h => h) (by kernel_rfl) (by assumption) ?_
  simp only [Act.put, aput]
  refine wtu 29 33 rfl rfl (by kernel_rfl) (fun _ _ _ h => h) (by kernel_rfl) (by assumption) ?_
  simp only [Act.put, aput]
  refine wtu 30 34 rfl rfl (by kernel_rfl) (fun _ _ _ h => h) (by kernel_rfl) (by assumption) ?_
  simp only [Act.put, aput]
  refine wtu 31 35 rfl rfl (by kernel_rfl) (fun _ _ _ h => h) (by kernel_rfl) (by assumption) ?_
  simp only [Act.put, aput]
  refine wtu 32 36 rfl rfl (by kernel_rfl) (fun _ _ _ h => h) (by kernel_rfl) (by assumption) ?_
  simp only [Act.put, aput]
  refine wtu 33 37 rfl rfl (by kernel_rfl) (fun _ _ _ h => h) (by kernel_rfl) (by assumption) ?_
  simp only [Act.put, aput]
  refine wtu 34 38 rfl rfl (by kernel_rfl) (fun _ _ _ h => h) (by kernel_rfl) (by assumption) ?_
  simp only [Act.put, aput]
  refine wtk 35 ?zv28 39 rfl rfl (by kernel_rfl) (fun _ _ _ h => h) (by kernel_rfl) ?zy28 (by assumption) ?zr28
  case zy28 => (intro w hSw; (try dsimp only at hSw); go_simp; try with_reducible rfl)
  simp only [Act.put, aput]
  refine wpAnyH_done (by kernel_rfl) ?_ _
  have HBE : Hid (Below w.heap.size w w2) := HB.out.trans ((HB1.out.mono HB.out.size).trans (HB2.out.mono (Nat.le_trans HB.out.size HB1.out.size)))
  have HKE := HK2
  go_wp2
  go_ret
  exact ⟨rfl, HBE.out⟩

set_option maxHeartbeats 8000000 in
set_option maxRecDepth 100000 in
theorem sfv_unsignedB (p d s : Int) (A1 : Option Addr) (n1 c1 : Nat) (A2 : Option Addr) (n2 c2 : Nat) (w : World) (h0 : 1 ≤ p) (h1 : p < 997) (hx : ¬ d = 0) (hS : signedB p 0 d s = false) :
    Calls Tryz.prog 21 #[feedV p 0 d s A1 n1 c1 A2 n2 c2] w fun e w' => e = .returned (.bool false) ∧ Below w.heap.size w w' := by
  have HS := Lib.hid hS
  clear hS
  obtain ⟨W, HW⟩ : ∃ W, Hid (w.alloc (.cells (feedC p 0 d s A1 n1 c1 A2 n2 c2) 56) = W) := ⟨_, rfl⟩
  have HK : Hid (Blk W w.heap.size 56 (feedC p 0 d s A1 n1 c1 A2 n2 c2)) := by rw [← HW.out]; exact Blk.new w _ _
  have HB : Hid (Below w.heap.size w W) := by rw [← HW.out]; exact (Below.refl _ w).alloc (Nat.le_refl _) _
  have hzW : w.heap.size < W.heap.size := HK.out.lt
  obtain ⟨k0, k1, k2, k3, k4, k5⟩ := feed_cells HK.out
  go_enter Tryz.func21, Tryz.ntmps21
  go_wp2_with fail
  rw [HW.out]
  refine wp_region_held_drew (S := (fun w' => w'.cell? ⟨w.heap.size, 0, none⟩ = some (.int .i64 p) ∧ w'.cell? ⟨w.heap.size, 1, none⟩ = some (.int .i64 0) ∧ w'.cell? ⟨w.heap.size, 2, none⟩ = some (.int .i64 d) ∧ w'.cell? ⟨w.heap.size, 3, none⟩ = some (.int .i64 s) ∧ w'.cell? ⟨w.heap.size, 4, none⟩ = some (.slice A1 n1 c1) ∧ w'.cell? ⟨w.heap.size, 5, none⟩ = some (.slice A2 n2 c2))) (by kernel_rfl) (feed_cells HK.out) (fun hHeld => ?_)
  refine wtk 0 ?zv29 4 rfl rfl (by kernel_rfl) (fun _ _ _ h => h) (by kernel_rfl) ?zy29 (by assumption) ?zr29
  case zy29 => (intro w hSw; (try dsimp only at hSw); go_simp; try with_reducible rfl)
  simp only [Act.put, aput]
  refine wtk 1 ?zv30 5 rfl rfl (by kernel_rfl) (fun _ _ _ h => h) (by kernel_rfl) ?zy30 (by assumption) ?zr30
  case zy30 => (intro w hSw; (try dsimp only at hSw); go_simp; try with_reducible rfl)
  simp only [Act.put, aput]
  refine wpAnyH_ready (rs := [2]) (by kernel_rfl) (by simp) (AllReadyH.cons rfl (fun K hK => ?_) AllReadyH.nil)
  go_simp
  go_at_call 50
  refine (skey_yes _ _ h0 h1).mono ?_
  rintro e w' ⟨rfl, rfl⟩
  refine hK.out _ _ (feed_cells HK.out) (fun hHeld => ?_)
  clear hK K
  (try simp only [Act.put, aput])
  refine wtk 3 ?zv31 7 rfl rfl (by kernel_rfl) (fun _ _ _ h => h) (by kernel_rfl) ?zy31 (by assumption) ?zr31
  case zy31 => (intro w hSw; (try dsimp only at hSw); go_simp; try with_reducible rfl)
  simp only [Act.put, aput]
  refine wtk 4 ?zv32 8 rfl rfl (by kernel_rfl) (fun _ _ _ h => h) (by kernel_rfl) ?zy32 (by assumption) ?zr32
  case zy32 => (intro w hSw; (try dsimp only at hSw); go_simp; try with_reducible rfl)
  simp only [Act.put, aput]
  refine wtk 5 ?zv33 9 rfl rfl (by kernel_rfl) (fun _ _ _ h => h) (by kernel_rfl) ?zy33 (by assumption) ?zr33
  case zy33 => (intro w hSw; (try dsimp only at hSw); go_simp; try with_reducible rfl)
  simp only [Act.put, aput]
  refine wtk 6 ?zv34 10 rfl rfl (by kernel_rfl) (fun _ _ _ h => h) (by kernel_rfl) ?zy34 (by assumption) ?zr34
  case zy34 => (intro w hSw; (try dsimp only at hSw); go_simp; try with_reducible rfl)
  simp only [Act.put, aput]
  refine wpAnyH_ready (rs := [7]) (by kernel_rfl) (by simp) (AllReadyH.cons rfl (fun K hK => ?_) AllReadyH.nil)
  go_simp
  go_at_call 54
  refine (empty_any _).mono ?_
  rintro e w1 ⟨rfl, hb1⟩
  have HB1 : Hid (Below W.heap.size W w1) := below_drew_l hb1
  have HK1 := Lib.hid (HK.out.below HB1.out hzW)
  clear hb1
  refine hK.out _ _ (feed_cells HK1.out) (fun hHeld => ?_)
  clear hK K
  (try simp only [Act.put, aput])
  refine wtk 8 ?zv35 12 rfl rfl (by kernel_rfl) (fun _ _ _ h => h) (by kernel_rfl) ?zy35 (by assumption) ?zr35
  case zy35 => (intro w hSw; (try dsimp only at hSw); go_simp; try with_reducible rfl)
  simp only [Act.put, aput]
  refine wtk 9 ?zv36 13 rfl rfl (by kernel_rfl) (fun _ _ _ h => h) (by kernel_rfl) ?zy36 (by assumption) ?zr36
  case zy36 => (intro w hSw; (try dsimp only at hSw); go_simp; try with_reducible rfl)
  simp only [Act.put, aput]
  refine wtk 10 ?zv37 14 rfl rfl (by kernel_rfl) (fun _ _ _ h => h) (by kernel_rfl) ?zy37 (by assumption) ?zr37
  case zy37 => (intro w hSw; (try dsimp only at hSw); go_simp; try with_reducible rfl)
  simp only [Act.put, aput]
  refine wtk 11 ?zv38 15 rfl rfl (by kernel_rfl) (fun _ _ _ h => h) (by kernel_rfl) ?zy38 (by assumption) ?zr38
  case zy38 => (intro w hSw; (try dsimp only at hSw); go_simp; try with_reducible rfl)
  simp only [Act.put, aput]
  refine wtk 12 ?zv39 16 rfl rfl (by kernel_rfl) (fun _ _ _ h => h) (by kernel_rfl) ?zy39 (by assumption) ?zr39
  case zy39 => (intro w hSw; (try dsimp only at hSw); go_simp; try with_reducible rfl)
  simp only [Act.put, aput]
  refine wtk 13 ?zv40 17 rfl rfl (by kernel_rfl) (fun _ _ _ h => h) (by kernel_rfl) ?zy40 (by assumption) ?zr40
  case zy40 => (intro w hSw; (try dsimp only at hSw); go_simp; try with_reducible rfl)
  simp only [Act.put, aput]
  refine wpAnyH_ready (rs := [14]) (by kernel_rfl) (by simp) (AllReadyH.cons rfl (fun K hK => ?_) AllReadyH.nil)
  go_simp
  go_at_call 55
  refine (scheck_any p 0 d s _).mono ?_
  rintro e w2 ⟨rfl, hb2⟩
  rw [HS.out]
  have HB2 := Lib.hid hb2
  have HK2 := Lib.hid (HK1.out.below HB2.out (Nat.lt_of_lt_of_le hzW HB1.out.size))
  clear hb2
  refine hK.out _ _ (feed_cells HK2.out) (fun hHeld => ?_)
  clear hK K
  (try simp only [Act.put, aput])
  refine wtk 15 ?zv41 19 rfl rfl (by kernel_rfl) (fun _ _ _ h => h) (by kernel_rfl) ?zy41 (by assumption) ?zr41
  case zy41 => (intro w hSw; (try dsimp only at hSw); go_simp; try with_reducible rfl)
  simp only [Act.put, aput]
  refine wtk 16 ?zv42 20 rfl rfl (by kernel_rfl) (fun _ _ _ h => h) (by kernel_rfl) ?zy42 (by assumption) ?zr42
  case zy42 => (intro w hSw; (try dsimp only at hSw); go_simp; try with_reducible rfl)
  simp only [Act.put, aput]
  refine wtk 17 ?zv43 21 rfl rfl (by kernel_rfl) (fun _ _ _ h => h) (by kernel_rfl) ?zy43 (by assumption) ?zr43
  case zy43 => (intro w hSw; (try dsimp only at hSw); go_simp; try with_reducible rfl)
  simp only [Act.put, aput]
  refine wtk 18 ?zv44 22 rfl rfl (by kernel_rfl) (fun _ _ _ h => h) (by kernel_rfl) ?zy44 (by assumption) ?zr44
  case zy44 => (intro w hSw; (try dsimp only at hSw); go_simp; try with_reducible rfl)
  simp only [Act.put, aput]
  refine wtu 19 23 rfl rfl (by kernel_rfl) (fun _ _ _ h => h) (by kernel_rfl) (by assumption) ?_
  simp only [Act.put, aput]
  refine wtu 20 24 rfl rfl (by kernel_rfl) (fun _ _ _ h => h) (by kernel_rfl) (by assumption) ?_
  simp only [Act.put, aput]
  refine wtu 21 25 rfl rfl (by kernel_rfl) (fun _ _ _ h => h) (by kernel_rfl) (by assumption) ?_
  simp only [Act.put, aput]
  refine wtu 22 26 rfl rfl (by kernel_rfl) (fun _ _ _ h => h) (by kernel_rfl) (by assumption) ?_
  simp only [Act.put, aput]
  refine wtu 23 27 rfl rfl (by kernel_rfl) (fun _ _ _ h => h) (by kernel_rfl) (by assumption) ?_
  simp only [Act.put, aput]
  refine wtu 24 28 rfl rfl (by kernel_rfl) (fun _ _ _ h => h) (by kernel_rfl) (by assumption) ?_
  simp only [Act.put, aput]
  refine wtu 25 29 rfl rfl (by kernel_rfl) (fun _ _ _ h => h) (by kernel_rfl) (by assumption) ?_
  simp only [Act.put, aput]
  refine wtk 26 ?zv45 30 rfl rfl (by kernel_rfl) (fun _ _ _ h => h) (by kernel_rfl) ?zy45 (by assumption) ?zr45
  case zy45 => (intro w hSw; (try dsimp only at hSw); go_simp; try with_reducible rfl)
  simp only [Act.put, aput]
  refine wtk 27 ?zv46 31 rfl rfl (by kernel_rfl) (fun _ _ _ h => h) (by kernel_rfl) ?zy46 (by assumption) ?zr46
  case zy46 => (intro w hSw; (try dsimp only at hSw); go_simp; try with_reducible rfl)
  simp only [Act.put, aput]
  refine wtu 28 32 rfl rfl (by kernel_rfl) (fun _ _ _ h => h) (by kernel_rfl) (by assumption) ?_
  simp only [Act.put, aput]
  refine wtu 29 33 rfl rfl (by kernel_rfl) (fun _ _ _ h => h) (by kernel_rfl) (by assumption) ?_
  simp only [Act.put, aput]
  refine wtu 30 34 rfl rfl (by kernel_rfl) (fun _ _ _ h => h) (by kernel_rfl) (by assumption) ?_
  simp only [Act.put, aput]
  refine wtu 31 35 rfl rfl (by kernel_rfl) (fun _ _ _ h => h) (by kernel_rfl) (by assumption) ?_
  simp only [Act.put, aput]
  refine wtu 32 36 rfl rfl (by kernel_rfl) (fun _ _ _ h => h) (by kernel_rfl) (by assumption) ?_
  simp only [Act.put, aput]
  refine wtu 33 37 rfl rfl (by kernel_rfl) (fun _ _ _ h => h) (by kernel_rfl) (by assumption) ?_
  simp only [Act.put, aput]
  refine wtu 34 38 rfl rfl (by kernel_rfl) (fun _ _ _ h => h) (by kernel_rfl) (by assumption) ?_
  simp only [Act.put, aput]
  refine wtk 35 ?zv47 39 rfl rfl (by kernel_rfl) (fun _ _ _ h => h) (by kernel_rfl) ?zy47 (by assumption) ?zr47
  case zy47 => (intro w hSw; (try dsimp only at hSw); go_simp; try with_reducible rfl)
  simp only [Act.put, aput]
  refine wpAnyH_done (by kernel_rfl) ?_ _
  have HBE : Hid (Below w.heap.size w w2) := HB.out.trans ((HB1.out.mono HB.out.size).trans (HB2.out.mono (Nat.le_trans HB.out.size HB1.out.size)))
  have HKE := HK2
  go_wp2
  go_ret
  exact ⟨rfl, HBE.out⟩

set_option maxHeartbeats 8000000 in
set_option maxRecDepth 100000 in
theorem sfv_unsignedC (p s : Int) (A1 : Option Addr) (n1 c1 : Nat) (A2 : Option Addr) (n2 c2 : Nat) (w : World) (h0 : 1 ≤ p) (h1 : p < 997) (hx : ¬ s = 0) (hS : signedB p 0 0 s = false) :
    Calls Tryz.prog 21 #[feedV p 0 0 s A1 n1 c1 A2 n2 c2] w fun e w' => e = .returned (.bool false) ∧ Below w.heap.size w w' := by
  have HS := Lib.hid hS
  clear hS
  obtain ⟨W, HW⟩ : ∃ W, Hid (w.alloc (.cells (feedC p 0 0 s A1 n1 c1 A2 n2 c2) 56) = W) := ⟨_, rfl⟩
  have HK : Hid (Blk W w.heap.size 56 (feedC p 0 0 s A1 n1 c1 A2 n2 c2)) := by rw [← HW.out]; exact Blk.new w _ _
  have HB : Hid (Below w.heap.size w W) := by rw [← HW.out]; exact (Below.refl _ w).alloc (Nat.le_refl _) _
  have hzW : w.heap.size < W.heap.size := HK.out.lt
  obtain ⟨k0, k1, k2, k3, k4, k5⟩ := feed_cells HK.out
  go_enter Tryz.func21, Tryz.ntmps21
  go_wp2_with fail
  rw [HW.out]
  refine wp_region_held_drew (S := (fun w' => w'.cell? ⟨w.heap.size, 0, none⟩ = some (.int .i64 p) ∧ w'.cell? ⟨w.heap.size, 1, none⟩ = some (.int .i64 0) ∧ w'.cell? ⟨w.heap.size, 2, none⟩ = some (.int .i64 0) ∧ w'.cell? ⟨w.heap.size, 3, none⟩ = some (.int .i64 s) ∧ w'.cell? ⟨w.heap.size, 4, none⟩ = some (.slice A1 n1 c1) ∧ w'.cell? ⟨w.heap.size, 5, none⟩ = some (.slice A2 n2 c2))) (by kernel_rfl) (feed_cells HK.out) (fun hHeld => ?_)
  refine wtk 0 ?zv48 4 rfl rfl (by kernel_rfl) (fun _ _ _ h => h) (by kernel_rfl) ?zy48 (by assumption) ?zr48
  case zy48 => (intro w hSw; (try dsimp only at hSw); go_simp; try with_reducible rfl)
  simp only [Act.put, aput]
  refine wtk 1 ?zv49 5 rfl rfl (by kernel_rfl) (fun _ _ _ h => h) (by kernel_rfl) ?zy49 (by assumption) ?zr49
  case zy49 => (intro w hSw; (try dsimp only at hSw); go_simp; try with_reducible rfl)
  simp only [Act.put, aput]
  refine wpAnyH_ready (rs := [2]) (by kernel_rfl) (by simp) (AllReadyH.cons rfl (fun K hK => ?_) AllReadyH.nil)
  go_simp
  go_at_call 50
  refine (skey_yes _ _ h0 h1).mono ?_
  rintro e w' ⟨rfl, rfl⟩
  refine hK.out _ _ (feed_cells HK.out) (fun hHeld => ?_)
  clear hK K
  (try simp only [Act.put, aput])
  refine wtk 3 ?zv50 7 rfl rfl (by kernel_rfl) (fun _ _ _ h => h) (by kernel_rfl) ?zy50 (by assumption) ?zr50
  case zy50 => (intro w hSw; (try dsimp only at hSw); go_simp; try with_reducible rfl)
  simp only [Act.put, aput]
  refine wtk 4 ?zv51 8 rfl rfl (by kernel_rfl) (fun _ _ _ h => h) (by kernel_rfl) ?zy51 (by assumption) ?zr51
  case zy51 => (intro w hSw; (try dsimp only at hSw); go_simp; try with_reducible rfl)
  simp only [Act.put, aput]
  refine wtk 5 ?zv52 9 rfl rfl (by kernel_rfl) (fun _ _ _ h => h) (by kernel_rfl) ?zy52 (by assumption) ?zr52
  case zy52 => (intro w hSw; (try dsimp only at hSw); go_simp; try with_reducible rfl)
  simp only [Act.put, aput]
  refine wtk 6 ?zv53 10 rfl rfl (by kernel_rfl) (fun _ _ _ h => h) (by kernel_rfl) ?zy53 (by assumption) ?zr53
  case zy53 => (intro w hSw; (try dsimp only at hSw); go_simp; try with_reducible rfl)
  simp only [Act.put, aput]
  refine wpAnyH_ready (rs := [7]) (by kernel_rfl) (by simp) (AllReadyH.cons rfl (fun K hK => ?_) AllReadyH.nil)
  go_simp
  go_at_call 54
  refine (empty_any _).mono ?_
  rintro e w1 ⟨rfl, hb1⟩
  have HB1 : Hid (Below W.heap.size W w1) := below_drew_l hb1
  have HK1 := Lib.hid (HK.out.below HB1.out hzW)
  clear hb1
  refine hK.out _ _ (feed_cells HK1.out) (fun hHeld => ?_)
  clear hK K
  (try simp only [Act.put, aput])
  refine wtk 8 ?zv54 12 rfl rfl (by kernel_rfl) (fun _ _ _ h => h) (by kernel_rfl) ?zy54 (by assumption) ?zr54
  case zy54 => (intro w hSw; (try dsimp only at hSw); go_simp; try with_reducible rfl)
  simp only [Act.put, aput]
  refine wtk 9 ?zv55 13 rfl rfl (by kernel_rfl) (fun _ _ _ h => h) (by kernel_rfl) ?zy55 (by assumption) ?zr55
  case zy55 => (intro w hSw; (try dsimp only at hSw); go_simp; try with_reducible rfl)
  simp only [Act.put, aput]
  refine wtk 10 ?zv56 14 rfl rfl (by kernel_rfl) (fun _ _ _ h => h) (by kernel_rfl) ?zy56 (by assumption) ?zr56
  case zy56 => (intro w hSw; (try dsimp only at hSw); go_simp; try with_reducible rfl)
  simp only [Act.put, aput]
  refine wtk 11 ?zv57 15 rfl rfl (by kernel_rfl) (fun _ _ _ h => h) (by kernel_rfl) ?zy57 (by assumption) ?zr57
  case zy57 => (intro w hSw; (try dsimp only at hSw); go_simp; try with_reducible rfl)
  simp only [Act.put, aput]
  refine wtk 12 ?zv58 16 rfl rfl (by kernel_rfl) (fun _ _ _ h => h) (by kernel_rfl) ?zy58 (by assumption) ?zr58
  case zy58 => (intro w hSw; (try dsimp only at hSw); go_simp; try with_reducible rfl)
  simp only [Act.put, aput]
  refine wtk 13 ?zv59 17 rfl rfl (by kernel_rfl) (fun _ _ _ h => h) (by kernel_rfl) ?zy59 (by assumption) ?zr59
  case zy59 => (intro w hSw; (try dsimp only at hSw); go_simp; try with_reducible rfl)
  simp only [Act.put, aput]
  refine wpAnyH_ready (rs := [14]) (by kernel_rfl) (by simp) (AllReadyH.cons rfl (fun K hK => ?_) AllReadyH.nil)
  go_simp
  go_at_call 55
  refine (scheck_any p 0 0 s _).mono ?_
  rintro e w2 ⟨rfl, hb2⟩
  rw [HS.out]
  have HB2 := Lib.hid hb2
  have HK2 := Lib.hid (HK1.out.below HB2.out (Nat.lt_of_lt_of_le hzW HB1.out.size))
  clear hb2
  refine hK.out _ _ (feed_cells HK2.out) (fun hHeld => ?_)
  clear hK K
  (try simp only [Act.put, aput])
  refine wtk 15 ?zv60 19 rfl rfl (by kernel_rfl) (fun _ _ _ h => h) (by kernel_rfl) ?zy60 (by assumption) ?zr60
  case zy60 => (intro w hSw; (try dsimp only at hSw); go_simp; try with_reducible rfl)
  simp only [Act.put, aput]
  refine wtk 16 ?zv61 20 rfl rfl (by kernel_rfl) (fun _ _ _ h => h) (by kernel_rfl) ?zy61 (by assumption) ?zr61
  case zy61 => (intro w hSw; (try dsimp only at hSw); go_simp; try with_reducible rfl)
  simp only [Act.put, aput]
  refine wtk 17 ?zv62 21 rfl rfl (by kernel_rfl) (fun _ _ _ h => h) (by kernel_rfl) ?zy62 (by assumption) ?zr62
  case zy62 => (intro w hSw; (try dsimp only at hSw); go_simp; try with_reducible rfl)
  simp only [Act.put, aput]
  refine wtk 18 ?zv63 22 rfl rfl (by kernel_rfl) (fun _ _ _ h => h) (by kernel_rfl) ?zy63 (by assumption) ?zr63
  case zy63 => (intro w hSw; (try dsimp only at hSw); go_simp; try with_reducible rfl)
  simp only [Act.put, aput]
  refine wtu 19 23 rfl rfl (by kernel_rfl) (fun _ _ _ h => h) (by kernel_rfl) (by assumption) ?_
  simp only [Act.put, aput]
  refine wtu 20 24 rfl rfl (by kernel_rfl) (fun _ _ _ h => h) (by kernel_rfl) (by assumption) ?_
  simp only [Act.put, aput]
  refine wtu 21 25 rfl rfl (by kernel_rfl) (fun _ _ _ h => h) (by kernel_rfl) (by assumption) ?_
  simp only [Act.put, aput]
  refine wtu 22 26 rfl rfl (by kernel_rfl) (fun _ _ _ h => h) (by kernel_rfl) (by assumption) ?_
  simp only [Act.put, aput]
  refine wtu 23 27 rfl rfl (by kernel_rfl) (fun _ _ _ h => h) (by kernel_rfl) (by assumption) ?_
  simp only [Act.put, aput]
  refine wtu 24 28 rfl rfl (by kernel_rfl) (fun _ _ _ h => h) (by kernel_rfl) (by assumption) ?_
  simp only [Act.put, aput]
  refine wtu 25 29 rfl rfl (by kernel_rfl) (fun _ _ _ h => h) (by kernel_rfl) (by assumption) ?_
  simp only [Act.put, aput]
  refine wtk 26 ?zv64 30 rfl rfl (by kernel_rfl) (fun _ _ _ h => h) (by kernel_rfl) ?zy64 (by assumption) ?zr64
  case zy64 => (intro w hSw; (try dsimp only at hSw); go_simp; try with_reducible rfl)
  simp only [Act.put, aput]
  refine wtk 27 ?zv65 31 rfl rfl (by kernel_rfl) (fun _ _ _ h => h) (by kernel_rfl) ?zy65 (by assumption) ?zr65
  case zy65 => (intro w hSw; (try dsimp only at hSw); go_simp; try with_reducible rfl)
  simp only [Act.put, aput]
  refine wtu 28 32 rfl rfl (by kernel_rfl) (fun _ _ _ h => h) (by kernel_rfl) (by assumption) ?_
  simp only [Act.put, aput]
  refine wtu 29 33 rfl rfl (by kernel_rfl) (fun _ _ _ h => h) (by kernel_rfl) (by assumption) ?_
  simp only [Act.put, aput]
  refine wtu 30 34 rfl rfl (by kernel_rfl) (fun _ _ _ h => h) (by kernel_rfl) (by assumption) ?_
  simp only [Act.put, aput]
  refine wtu 31 35 rfl rfl (by kernel_rfl) (fun _ _ _ h => h) (by kernel_rfl) (by assumption) ?_
  simp only [Act.put, aput]
  refine wtu 32 36 rfl rfl (by kernel_rfl) (fun _ _ _ h => h) (by kernel_rfl) (by assumption) ?_
  simp only [Act.put, aput]
  refine wtu 33 37 rfl rfl (by kernel_rfl) (fun _ _ _ h => h) (by kernel_rfl) (by assumption) ?_
  simp only [Act.put, aput]
  refine wtu 34 38 rfl rfl (by kernel_rfl) (fun _ _ _ h => h) (by kernel_rfl) (by assumption) ?_
  simp only [Act.put, aput]
  refine wtk 35 ?zv66 39 rfl rfl (by kernel_rfl) (fun _ _ _ h => h) (by kernel_rfl) ?zy66 (by assumption) ?zr66
  case zy66 => (intro w hSw; (try dsimp only at hSw); go_simp; try with_reducible rfl)
  simp only [Act.put, aput]
  refine wpAnyH_done (by kernel_rfl) ?_ _
  have HBE : Hid (Below w.heap.size w w2) := HB.out.trans ((HB1.out.mono HB.out.size).trans (HB2.out.mono (Nat.le_trans HB.out.size HB1.out.size)))
  have HKE := HK2
  go_wp2
  go_ret
  exact ⟨rfl, HBE.out⟩

end Go.Proofs.YtkmebilhbjcfpaaGreat

namespace Go.Proofs.YtkmebilhbjcfpaaGreat
open Go.RowKit
set_option linter.unusedVariables false

set_option maxHeartbeats 8000000 in
set_option maxRecDepth 100000 in
theorem sfv_lensA1 (p l d s : Int) (A1 : Option Addr) (n1 c1 : Nat) (A2 : Option Addr) (n2 c2 : Nat) (w : World) (hb1 : n1 ≤ maxLen) (hb2 : n2 ≤ maxLen) (h0 : 1 ≤ p) (h1 : p < 997) (hx : ¬ l = 0) (hS : signedB p l d s = true) (hn : ¬ (n1 : Int) = l) :
    Calls Tryz.prog 21 #[feedV p l d s A1 n1 c1 A2 n2 c2] w fun e w' => e = .returned (.bool false) ∧ Below w.heap.size w w' := by
  unfold maxLen at hb1 hb2
  have HS := Lib.hid hS
  clear hS
  have hnb : ((n1 : Int) != l) = true := by rw [bne_iff_ne]; omega
  obtain ⟨W, HW⟩ : ∃ W, Hid (w.alloc (.cells (feedC p l d s A1 n1 c1 A2 n2 c2) 56) = W) := ⟨_, rfl⟩
  have HK : Hid (Blk W w.heap.size 56 (feedC p l d s A1 n1 c1 A2 n2 c2)) := by rw [← HW.out]; exact Blk.new w _ _
  have HB : Hid (Below w.heap.size w W) := by rw [← HW.out]; exact (Below.refl _ w).alloc (Nat.le_refl _) _
  have hzW : w.heap.size < W.heap.size := HK.out.lt
  obtain ⟨k0, k1, k2, k3, k4, k5⟩ := feed_cells HK.out
  go_enter Tryz.func21, Tryz.ntmps21
  go_wp2_with fail
  rw [HW.out]
  refine wp_region_held_drew (S := (fun w' => w'.cell? ⟨w.heap.size, 0, none⟩ = some (.int .i64 p) ∧ w'.cell? ⟨w.heap.size, 1, none⟩ = some (.int .i64 l) ∧ w'.cell? ⟨w.heap.size, 2, none⟩ = some (.int .i64 d) ∧ w'.cell? ⟨w.heap.size, 3, none⟩ = some (.int .i64 s) ∧ w'.cell? ⟨w.heap.size, 4, none⟩ = some (.slice A1 n1 c1) ∧ w'.cell? ⟨w.heap.size, 5, none⟩ = some (.slice A2 n2 c2))) (by kernel_rfl) (feed_cells HK.out) (fun hHeld => ?_)
  refine wtk 0 ?zv67 4 rfl rfl (by kernel_rfl) (fun _ _ _ h => h) (by kernel_rfl) ?zy67 (by assumption) ?zr67
  case zy67 => (intro w hSw; (try dsimp only at hSw); go_simp; try with_reducible rfl)
  simp only [Act.put, aput]
  refine wtk 1 ?zv68 5 rfl rfl (by kernel_rfl) (fun _ _ _ h => h) (by kernel_rfl) ?zy68 (by assumption) ?zr68
  case zy68 => (intro w hSw; (try dsimp only at hSw); go_simp; try with_reducible rfl)
  simp only [Act.put, aput]
  refine wpAnyH_ready (rs := [2]) (by kernel_rfl) (by simp) (AllReadyH.cons rfl (fun K hK => ?_) AllReadyH.nil)
  go_simp
  go_at_call 50
  refine (skey_yes _ _ h0 h1).mono ?_
  rintro e w' ⟨rfl, rfl⟩
  refine hK.out _ _ (feed_cells HK.out) (fun hHeld => ?_)
  clear hK K
  (try simp only [Act.put, aput])
  refine wtk 3 ?zv69 7 rfl rfl (by kernel_rfl) (fun _ _ _ h => h) (by kernel_rfl) ?zy69 (by assumption) ?zr69
  case zy69 => (intro w hSw; (try dsimp only at hSw); go_simp; try with_reducible rfl)
  simp only [Act.put, aput]
  refine wtk 4 ?zv70 8 rfl rfl (by kernel_rfl) (fun _ _ _ h => h) (by kernel_rfl) ?zy70 (by assumption) ?zr70
  case zy70 => (intro w hSw; (try dsimp only at hSw); go_simp; try with_reducible rfl)
  simp only [Act.put, aput]
  refine wtk 5 ?zv71 9 rfl rfl (by kernel_rfl) (fun _ _ _ h => h) (by kernel_rfl) ?zy71 (by assumption) ?zr71
  case zy71 => (intro w hSw; (try dsimp only at hSw); go_simp; try with_reducible rfl)
  simp only [Act.put, aput]
  refine wtk 6 ?zv72 10 rfl rfl (by kernel_rfl) (fun _ _ _ h => h) (by kernel_rfl) ?zy72 (by assumption) ?zr72
  case zy72 => (intro w hSw; (try dsimp only at hSw); go_simp; try with_reducible rfl)
  simp only [Act.put, aput]
  refine wpAnyH_ready (rs := [7]) (by kernel_rfl) (by simp) (AllReadyH.cons rfl (fun K hK => ?_) AllReadyH.nil)
  go_simp
  go_at_call 54
  refine (empty_any _).mono ?_
  rintro e w1 ⟨rfl, hb1⟩
  have HB1 : Hid (Below W.heap.size W w1) := below_drew_l hb1
  have HK1 := Lib.hid (HK.out.below HB1.out hzW)
  clear hb1
  refine hK.out _ _ (feed_cells HK1.out) (fun hHeld => ?_)
  clear hK K
  (try simp only [Act.put, aput])
  refine wtk 8 ?zv73 12 rfl rfl (by kernel_rfl) (fun _ _ _ h => h) (by kernel_rfl) ?zy73 (by assumption) ?zr73
  case zy73 => (intro w hSw; (try dsimp only at hSw); go_simp; try with_reducible rfl)
  simp only [Act.put, aput]
  refine wtk 9 ?zv74 13 rfl rfl (by kernel_rfl) (fun _ _ _ h => h) (by kernel_rfl) ?zy74 (by assumption) ?zr74
  case zy74 => (intro w hSw; (try dsimp only at hSw); go_simp; try with_reducible rfl)
  simp only [Act.put, aput]
  refine wtk 10 ?zv75 14 rfl rfl (by kernel_rfl) (fun _ _ _ h => h) (by kernel_rfl) ?zy75 (by assumption) ?zr75
  case zy75 => (intro w hSw; (try dsimp only at hSw); go_simp; try with_reducible rfl)
  simp only [Act.put, aput]
  refine wtk 11 ?zv76 15 rfl rfl (by kernel_rfl) (fun _ _ _ h => h) (by kernel_rfl) ?zy76 (by assumption) ?zr76
  case zy76 => (intro w hSw; (try dsimp only at hSw); go_simp; try with_reducible rfl)
  simp only [Act.put, aput]
  refine wtk 12 ?zv77 16 rfl rfl (by kernel_rfl) (fun _ _ _ h => h) (by kernel_rfl) ?zy77 (by assumption) ?zr77
  case zy77 => (intro w hSw; (try dsimp only at hSw); go_simp; try with_reducible rfl)
  simp only [Act.put, aput]
  refine wtk 13 ?zv78 17 rfl rfl (by kernel_rfl) (fun _ _ _ h => h) (by kernel_rfl) ?zy78 (by assumption) ?zr78
  case zy78 => (intro w hSw; (try dsimp only at hSw); go_simp; try with_reducible rfl)
  simp only [Act.put, aput]
  refine wpAnyH_ready (rs := [14]) (by kernel_rfl) (by simp) (AllReadyH.cons rfl (fun K hK => ?_) AllReadyH.nil)
  go_simp
  go_at_call 55
  refine (scheck_any p l d s _).mono ?_
  rintro e w2 ⟨rfl, hb2⟩
  rw [HS.out]
  have HB2 := Lib.hid hb2
  have HK2 := Lib.hid (HK1.out.below HB2.out (Nat.lt_of_lt_of_le hzW HB1.out.size))
  clear hb2
  refine hK.out _ _ (feed_cells HK2.out) (fun hHeld => ?_)
  clear hK K
  (try simp only [Act.put, aput])
  refine wtk 15 ?zv79 19 rfl rfl (by kernel_rfl) (fun _ _ _ h => h) (by kernel_rfl) ?zy79 (by assumption) ?zr79
  case zy79 => (intro w hSw; (try dsimp only at hSw); go_simp; try with_reducible rfl)
  simp only [Act.put, aput]
  refine wtk 16 ?zv80 20 rfl rfl (by kernel_rfl) (fun _ _ _ h => h) (by kernel_rfl) ?zy80 (by assumption) ?zr80
  case zy80 => (intro w hSw; (try dsimp only at hSw); go_simp; try with_reducible rfl)
  simp only [Act.put, aput]
  refine wtk 17 ?zv81 21 rfl rfl (by kernel_rfl) (fun _ _ _ h => h) (by kernel_rfl) ?zy81 (by assumption) ?zr81
  case zy81 => (intro w hSw; (try dsimp only at hSw); go_simp; try with_reducible rfl)
  simp only [Act.put, aput]
  refine wtk 18 ?zv82 22 rfl rfl (by kernel_rfl) (fun _ _ _ h => h) (by kernel_rfl) ?zy82 (by assumption) ?zr82
  case zy82 => (intro w hSw; (try dsimp only at hSw); go_simp; try with_reducible rfl)
  simp only [Act.put, aput]
  refine wtk 19 ?zv83 23 rfl rfl (by kernel_rfl) (fun _ _ _ h => h) (by kernel_rfl) ?zy83 (by assumption) ?zr83
  case zy83 => (intro w hSw; (try dsimp only at hSw); go_simp; try with_reducible rfl)
  simp only [Act.put, aput]
  refine wtk 20 ?zv84 24 rfl rfl (by kernel_rfl) (fun _ _ _ h => h) (by kernel_rfl) ?zy84 (by assumption) ?zr84
  case zy84 => (intro w hSw; (try dsimp only at hSw); go_simp; try with_reducible rfl)
  simp only [Act.put, aput]
  refine wtk 21 ?zv85 25 rfl rfl (by kernel_rfl) (fun _ _ _ h => h) (by kernel_rfl) ?zy85 (by assumption) ?zr85
  case zy85 => (intro w hSw; (try dsimp only at hSw); go_simp; try with_reducible rfl)
  simp only [Act.put, aput]
  refine wtk 22 ?zv86 26 rfl rfl (by kernel_rfl) (fun _ _ _ h => h) (by kernel_rfl) ?zy86 (by assumption) ?zr86
  case zy86 => (intro w hSw; (try dsimp only at hSw); go_simp; try with_reducible rfl)
  simp only [Act.put, aput]
  refine wtk 23 ?zv87 27 rfl rfl (by kernel_rfl) (fun _ _ _ h => h) (by kernel_rfl) ?zy87 (by assumption) ?zr87
  case zy87 => (intro w hSw; (try dsimp only at hSw); go_simp; try with_reducible rfl)
  simp only [Act.put, aput]
  refine wtk 24 ?zv88 28 rfl rfl (by kernel_rfl) (fun _ _ _ h => h) (by kernel_rfl) ?zy88 (by assumption) ?zr88
  case zy88 => (intro w hSw; (try dsimp only at hSw); go_simp; try with_reducible rfl)
  simp only [Act.put, aput]
  refine wtk 25 ?zv89 29 rfl rfl (by kernel_rfl) (fun _ _ _ h => h) (by kernel_rfl) ?zy89 (by assumption) ?zr89
  case zy89 => (intro w hSw; (try dsimp only at hSw); go_simp; try with_reducible rfl)
  simp only [Act.put, aput]
  refine wtk 26 ?zv90 30 rfl rfl (by kernel_rfl) (fun _ _ _ h => h) (by kernel_rfl) ?zy90 (by assumption) ?zr90
  case zy90 => (intro w hSw; (try dsimp only at hSw); go_simp; try with_reducible rfl)
  simp only [Act.put, aput]
  refine wtk 27 ?zv91 31 rfl rfl (by kernel_rfl) (fun _ _ _ h => h) (by kernel_rfl) ?zy91 (by assumption) ?zr91
  case zy91 => (intro w hSw; (try dsimp only at hSw); go_simp; try with_reducible rfl)
  simp only [Act.put, aput]
  refine wtu 28 32 rfl rfl (by kernel_rfl) (fun _ _ _ h => h) (by kernel_rfl) (by assumption) ?_
  simp only [Act.put, aput]
  refine wtu 29 33 rfl rfl (by kernel_rfl) (fun _ _ _ h => h) (by kernel_rfl) (by assumption) ?_
  simp only [Act.put, aput]
  refine wtu 30 34 rfl rfl (by kernel_rfl) (fun _ _ _ h => h) (by kernel_rfl) (by assumption) ?_
  simp only [Act.put, aput]
  refine wtu 31 35 rfl rfl (by kernel_rfl) (fun _ _ _ h => h) (by kernel_rfl) (by assumption) ?_
  simp only [Act.put, aput]
  refine wtu 32 36 rfl rfl (by kernel_rfl) (fun _ _ _ h => h) (by kernel_rfl) (by assumption) ?_
  simp only [Act.put, aput]
  refine wtu 33 37 rfl rfl (by kernel_rfl) (fun _ _ _ h => h) (by kernel_rfl) (by assumption) ?_
  simp only [Act.put, aput]
  refine wtu 34 38 rfl rfl (by kernel_rfl) (fun _ _ _ h => h) (by kernel_rfl) (by assumption) ?_
  simp only [Act.put, aput]
  refine wtk 35 ?zv92 39 rfl rfl (by kernel_rfl) (fun _ _ _ h => h) (by kernel_rfl) ?zy92 (by assumption) ?zr92
  case zy92 => (intro w hSw; (try dsimp only at hSw); go_simp; try with_reducible rfl)
  simp only [Act.put, aput]
  refine wpAnyH_done (by kernel_rfl) ?_ _
  have HBE : Hid (Below w.heap.size w w2) := HB.out.trans ((HB1.out.mono HB.out.size).trans (HB2.out.mono (Nat.le_trans HB.out.size HB1.out.size)))
  have HKE := HK2
  go_wp2
  go_ret
  exact ⟨rfl, HBE.out⟩

set_option maxHeartbeats 8000000 in
set_option maxRecDepth 100000 in
theorem sfv_lensA2 (p d s : Int) (A1 : Option Addr) (n1 c1 : Nat) (A2 : Option Addr) (n2 c2 : Nat) (w : World) (hb1 : n1 ≤ maxLen) (hb2 : n2 ≤ maxLen) (h0 : 1 ≤ p) (h1 : p < 997) (hx : ¬ n1 = 0) (hS : signedB p (n1 : Int) d s = true) (hn : ¬ n2 = n1) :
    Calls Tryz.prog 21 #[feedV p (n1 : Int) d s A1 n1 c1 A2 n2 c2] w fun e w' => e = .returned (.bool false) ∧ Below w.heap.size w w' := by
  unfold maxLen at hb1 hb2
  have HS := Lib.hid hS
  clear hS
  have hnb : ((n2 : Int) != (n1 : Int)) = true := by rw [bne_iff_ne]; omega
  obtain ⟨W, HW⟩ : ∃ W, Hid (w.alloc (.cells (feedC p (n1 : Int) d s A1 n1 c1 A2 n2 c2) 56) = W) := ⟨_, rfl⟩
  have HK : Hid (Blk W w.heap.size 56 (feedC p (n1 : Int) d s A1 n1 c1 A2 n2 c2)) := by rw [← HW.out]; exact Blk.new w _ _
  have HB : Hid (Below w.heap.size w W) := by rw [← HW.out]; exact (Below.refl _ w).alloc (Nat.le_refl _) _
  have hzW : w.heap.size < W.heap.size := HK.out.lt
  obtain ⟨k0, k1, k2, k3, k4, k5⟩ := feed_cells HK.out
  go_enter Tryz.func21, Tryz.ntmps21
  go_wp2_with fail
  rw [HW.out]
  refine wp_region_held_drew (S := (fun w' => w'.cell? ⟨w.heap.size, 0, none⟩ = some (.int .i64 p) ∧ w'.cell? ⟨w.heap.size, 1, none⟩ = some (.int .i64 (n1 : Int)) ∧ w'.cell? ⟨w.heap.size, 2, none⟩ = some (.int .i64 d) ∧ w'.cell? ⟨w.heap.size, 3, none⟩ = some (.int .i64 s) ∧ w'.cell? ⟨w.heap.size, 4, none⟩ = some (.slice A1 n1 c1) ∧ w'.cell? ⟨w.heap.size, 5, none⟩ = some (.slice A2 n2 c2))) (by kernel_rfl) (feed_cells HK.out) (fun hHeld => ?_)
  refine wtk 0 ?zv93 4 rfl rfl (by kernel_rfl) (fun _ _ _ h => h) (by kernel_rfl) ?zy93 (by assumption) ?zr93
  case zy93 => (intro w hSw; (try dsimp only at hSw); go_simp; try with_reducible rfl)
  simp only [Act.put, aput]
  refine wtk 1 ?zv94 5 rfl rfl (by kernel_rfl) (fun _ _ _ h => h) (by kernel_rfl) ?zy94 (by assumption) ?zr94
  case zy94 => (intro w hSw; (try dsimp only at hSw); go_simp; try with_reducible rfl)
  simp only [Act.put, aput]
  refine wpAnyH_ready (rs := [2]) (by kernel_rfl) (by simp) (AllReadyH.cons rfl (fun K hK => ?_) AllReadyH.nil)
  go_simp
  go_at_call 50
  refine (skey_yes _ _ h0 h1).mono ?_
  rintro e w' ⟨rfl, rfl⟩
  refine hK.out _ _ (feed_cells HK.out) (fun hHeld => ?_)
  clear hK K
  (try simp only [Act.put, aput])
  refine wtk 3 ?zv95 7 rfl rfl (by kernel_rfl) (fun _ _ _ h => h) (by kernel_rfl) ?zy95 (by assumption) ?zr95
  case zy95 => (intro w hSw; (try dsimp only at hSw); go_simp; try with_reducible rfl)
  simp only [Act.put, aput]
  refine wtk 4 ?zv96 8 rfl rfl (by kernel_rfl) (fun _ _ _ h => h) (by kernel_rfl) ?zy96 (by assumption) ?zr96
  case zy96 => (intro w hSw; (try dsimp only at hSw); go_simp; try with_reducible rfl)
  simp only [Act.put, aput]
  refine wtk 5 ?zv97 9 rfl rfl (by kernel_rfl) (fun _ _ _ h => h) (by kernel_rfl) ?zy97 (by assumption) ?zr97
  case zy97 => (intro w hSw; (try dsimp only at hSw); go_simp; try with_reducible rfl)
  simp only [Act.put, aput]
  refine wtk 6 ?zv98 10 rfl rfl (by kernel_rfl) (fun _ _ _ h => h) (by kernel_rfl) ?zy98 (by assumption) ?zr98
  case zy98 => (intro w hSw; (try dsimp only at hSw); go_simp; try with_reducible rfl)
  simp only [Act.put, aput]
  refine wpAnyH_ready (rs := [7]) (by kernel_rfl) (by simp) (AllReadyH.cons rfl (fun K hK => ?_) AllReadyH.nil)
  go_simp
  go_at_call 54
  refine (empty_any _).mono ?_
  rintro e w1 ⟨rfl, hb1⟩
  have HB1 : Hid (Below W.heap.size W w1) := below_drew_l hb1
  have HK1 := Lib.hid (HK.out.below HB1.out hzW)
  clear hb1
  refine hK.out _ _ (feed_cells HK1.out) (fun hHeld => ?_)
  clear hK K
  (try simp only [Act.put, aput])
  refine wtk 8 ?zv99 12 rfl rfl (by kernel_rfl) (fun _ _ _ h => h) (by kernel_rfl) ?zy99 (by assumption) ?zr99
  case zy99 => (intro w hSw; (try dsimp only at hSw); go_simp; try with_reducible rfl)
  simp only [Act.put, aput]
  refine wtk 9 ?zv100 13 rfl rfl (by kernel_rfl) (fun _ _ _ h => h) (by kernel_rfl) ?zy100 (by assumption) ?zr100
  case zy100 => (intro w hSw; (try dsimp only at hSw); go_simp; try with_reducible rfl)
  simp only [Act.put, aput]
  refine wtk 10 ?zv101 14 rfl rfl (by kernel_rfl) (fun _ _ _ h => h) (by kernel_rfl) ?zy101 (by assumption) ?zr101
  case zy101 => (intro w hSw; (try dsimp only at hSw); go_simp; try with_reducible rfl)
  simp only [Act.put, aput]
  refine wtk 11 ?zv102 15 rfl rfl (by kernel_rfl) (fun _ _ _ h => h) (by kernel_rfl) ?zy102 (by assumption) ?zr102
  case zy102 => (intro w hSw; (try dsimp only at hSw); go_simp; try with_reducible rfl)
  simp only [Act.put, aput]
  refine wtk 12 ?zv103 16 rfl rfl (by kernel_rfl) (fun _ _ _ h => h) (by kernel_rfl) ?zy103 (by assumption) ?zr103
  case zy103 => (intro w hSw; (try dsimp only at hSw); go_simp; try with_reducible rfl)
  simp only [Act.put, aput]
  refine wtk 13 ?zv104 17 rfl rfl (by kernel_rfl) (fun _ _ _ h => h) (by kernel_rfl) ?zy104 (by assumption) ?zr104
  case zy104 => (intro w hSw; (try dsimp only at hSw); go_simp; try with_reducible rfl)
  simp only [Act.put, aput]
  refine wpAnyH_ready (rs := [14]) (by kernel_rfl) (by simp) (AllReadyH.cons rfl (fun K hK => ?_) AllReadyH.nil)
  go_simp
  go_at_call 55
  refine (scheck_any p (n1 : Int) d s _).mono ?_
  rintro e w2 ⟨rfl, hb2⟩
  rw [HS.out]
  have HB2 := Lib.hid hb2
  have HK2 := Lib.hid (HK1.out.below HB2.out (Nat.lt_of_lt_of_le hzW HB1.out.size))
  clear hb2
  refine hK.out _ _ (feed_cells HK2.out) (fun hHeld => ?_)
  clear hK K
  (try simp only [Act.put, aput])
  refine wtk 15 ?zv105 19 rfl rfl (by kernel_rfl) (fun _ _ _ h => h) (by kernel_rfl) ?zy105 (by assumption) ?zr105
  case zy105 => (intro w hSw; (try dsimp only at hSw); go_simp; try with_reducible rfl)
  simp only [Act.put, aput]
  refine wtk 16 ?zv106 20 rfl rfl (by kernel_rfl) (fun _ _ _ h => h) (by kernel_rfl) ?zy106 (by assumption) ?zr106
  case zy106 => (intro w hSw; (try dsimp only at hSw); go_simp; try with_reducible rfl)
  simp only [Act.put, aput]
  refine wtk 17 ?zv107 21 rfl rfl (by kernel_rfl) (fun _ _ _ h => h) (by kernel_rfl) ?zy107 (by assumption) ?zr107
  case zy107 => (intro w hSw; (try dsimp only at hSw); go_simp; try with_reducible rfl)
  simp only [Act.put, aput]
  refine wtk 18 ?zv108 22 rfl rfl (by kernel_rfl) (fun _ _ _ h => h) (by kernel_rfl) ?zy108 (by assumption) ?zr108
  case zy108 => (intro w hSw; (try dsimp only at hSw); go_simp; try with_reducible rfl)
  simp only [Act.put, aput]
  refine wtk 19 ?zv109 23 rfl rfl (by kernel_rfl) (fun _ _ _ h => h) (by kernel_rfl) ?zy109 (by assumption) ?zr109
  case zy109 => (intro w hSw; (try dsimp only at hSw); go_simp; try with_reducible rfl)
  simp only [Act.put, aput]
  refine wtk 20 ?zv110 24 rfl rfl (by kernel_rfl) (fun _ _ _ h => h) (by kernel_rfl) ?zy110 (by assumption) ?zr110
  case zy110 => (intro w hSw; (try dsimp only at hSw); go_simp; try with_reducible rfl)
  simp only [Act.put, aput]
  refine wtk 21 ?zv111 25 rfl rfl (by kernel_rfl) (fun _ _ _ h => h) (by kernel_rfl) ?zy111 (by assumption) ?zr111
  case zy111 => (intro w hSw; (try dsimp only at hSw); go_simp; try with_reducible rfl)
  simp only [Act.put, aput]
  refine wtk 22 ?zv112 26 rfl rfl (by kernel_rfl) (fun _ _ _ h => h) (by kernel_rfl) ?zy112 (by assumption) ?zr112
  case zy112 => (intro w hSw; (try dsimp only at hSw); go_simp; try with_reducible rfl)
  simp only [Act.put, aput]
  refine wtk 23 ?zv113 27 rfl rfl (by kernel_rfl) (fun _ _ _ h => h) (by kernel_rfl) ?zy113 (by assumption) ?zr113
  case zy113 => (intro w hSw; (try dsimp only at hSw); go_simp; try with_reducible rfl)
  simp only [Act.put, aput]
  refine wtk 24 ?zv114 28 rfl rfl (by kernel_rfl) (fun _ _ _ h => h) (by kernel_rfl) ?zy114 (by assumption) ?zr114
  case zy114 => (intro w hSw; (try dsimp only at hSw); go_simp; try with_reducible rfl)
  simp only [Act.put, aput]
  refine wtk 25 ?zv115 29 rfl rfl (by kernel_rfl) (fun _ _ _ h => h) (by kernel_rfl) ?zy115 (by assumption) ?zr115
  case zy115 => (intro w hSw; (try dsimp only at hSw); go_simp; try with_reducible rfl)
  simp only [Act.put, aput]
  refine wtk 26 ?zv116 30 rfl rfl (by kernel_rfl) (fun _ _ _ h => h) (by kernel_rfl) ?zy116 (by assumption) ?zr116
  case zy116 => (intro w hSw; (try dsimp only at hSw); go_simp; try with_reducible rfl)
  simp only [Act.put, aput]
  refine wtk 27 ?zv117 31 rfl rfl (by kernel_rfl) (fun _ _ _ h => h) (by kernel_rfl) ?zy117 (by assumption) ?zr117
  case zy117 => (intro w hSw; (try dsimp only at hSw); go_simp; try with_reducible rfl)
  simp only [Act.put, aput]
  refine wtk 28 ?zv118 32 rfl rfl (by kernel_rfl) (fun _ _ _ h => h) (by kernel_rfl) ?zy118 (by assumption) ?zr118
  case zy118 => (intro w hSw; (try dsimp only at hSw); go_simp; try with_reducible rfl)
  simp only [Act.put, aput]
  refine wtk 29 ?zv119 33 rfl rfl (by kernel_rfl) (fun _ _ _ h => h) (by kernel_rfl) ?zy119 (by assumption) ?zr119
  case zy119 => (intro w hSw; (try dsimp only at hSw); go_simp; try with_reducible rfl)
  simp only [Act.put, aput]
  refine wtk 30 ?zv120 34 rfl rfl (by kernel_rfl) (fun _ _ _ h => h) (by kernel_rfl) ?zy120 (by assumption) ?zr120
  case zy120 => (intro w hSw; (try dsimp only at hSw); go_simp; try with_reducible rfl)
  simp only [Act.put, aput]
  refine wtk 31 ?zv121 35 rfl rfl (by kernel_rfl) (fun _ _ _ h => h) (by kernel_rfl) ?zy121 (by assumption) ?zr121
  case zy121 => (intro w hSw; (try dsimp only at hSw); go_simp; try with_reducible rfl)
  simp only [Act.put, aput]
  refine wtk 32 ?zv122 36 rfl rfl (by kernel_rfl) (fun _ _ _ h => h) (by kernel_rfl) ?zy122 (by assumption) ?zr122
  case zy122 => (intro w hSw; (try dsimp only at hSw); go_simp; try with_reducible rfl)
  simp only [Act.put, aput]
  refine wtk 33 ?zv123 37 rfl rfl (by kernel_rfl) (fun _ _ _ h => h) (by kernel_rfl) ?zy123 (by assumption) ?zr123
  case zy123 => (intro w hSw; (try dsimp only at hSw); go_simp; try with_reducible rfl)
  simp only [Act.put, aput]
  refine wtk 34 ?zv124 38 rfl rfl (by kernel_rfl) (fun _ _ _ h => h) (by kernel_rfl) ?zy124 (by assumption) ?zr124
  case zy124 => (intro w hSw; (try dsimp only at hSw); go_simp; try with_reducible rfl)
  simp only [Act.put, aput]
  refine wtk 35 ?zv125 39 rfl rfl (by kernel_rfl) (fun _ _ _ h => h) (by kernel_rfl) ?zy125 (by assumption) ?zr125
  case zy125 => (intro w hSw; (try dsimp only at hSw); go_simp; try with_reducible rfl)
  simp only [Act.put, aput]
  refine wpAnyH_done (by kernel_rfl) ?_ _
  have HBE : Hid (Below w.heap.size w w2) := HB.out.trans ((HB1.out.mono HB.out.size).trans (HB2.out.mono (Nat.le_trans HB.out.size HB1.out.size)))
  have HKE := HK2
  go_wp2
  go_ret
  exact ⟨rfl, HBE.out⟩

set_option maxHeartbeats 8000000 in
set_option maxRecDepth 100000 in
theorem sfv_lensB1 (p d s : Int) (A1 : Option Addr) (n1 c1 : Nat) (A2 : Option Addr) (n2 c2 : Nat) (w : World) (hb1 : n1 ≤ maxLen) (hb2 : n2 ≤ maxLen) (h0 : 1 ≤ p) (h1 : p < 997) (hx : ¬ d = 0) (hS : signedB p 0 d s = true) (hn : ¬ n1 = 0) :
    Calls Tryz.prog 21 #[feedV p 0 d s A1 n1 c1 A2 n2 c2] w fun e w' => e = .returned (.bool false) ∧ Below w.heap.size w w' := by
  unfold maxLen at hb1 hb2
  have HS := Lib.hid hS
  clear hS
  have hnb : ((n1 : Int) != 0) = true := by rw [bne_iff_ne]; omega
  obtain ⟨W, HW⟩ : ∃ W, Hid (w.alloc (.cells (feedC p 0 d s A1 n1 c1 A2 n2 c2) 56) = W) := ⟨_, rfl⟩
  have HK : Hid (Blk W w.heap.size 56 (feedC p 0 d s A1 n1 c1 A2 n2 c2)) := by rw [← HW.out]; exact Blk.new w _ _
  have HB : Hid (Below w.heap.size w W) := by rw [← HW.out]; exact (Below.refl _ w).alloc (Nat.le_refl _) _
  have hzW : w.heap.size < W.heap.size := HK.out.lt
  obtain ⟨k0, k1, k2, k3, k4, k5⟩ := feed_cells HK.out
  go_enter Tryz.func21, Tryz.ntmps21
  go_wp2_with fail
  rw [HW.out]
  refine wp_region_held_drew (S := (fun w' => w'.cell? ⟨w.heap.size, 0, none⟩ = some (.int .i64 p) ∧ w'.cell? ⟨w.heap.size, 1, none⟩ = some (.int .i64 0) ∧ w'.cell? ⟨w.heap.size, 2, none⟩ = some (.int .i64 d) ∧ w'.cell? ⟨w.heap.size, 3, none⟩ = some (.int .i64 s) ∧ w'.cell? ⟨w.heap.size, 4, none⟩ = some (.slice A1 n1 c1) ∧ w'.cell? ⟨w.heap.size, 5, none⟩ = some (.slice A2 n2 c2))) (by kernel_rfl) (feed_cells HK.out) (fun hHeld => ?_)
  refine wtk 0 ?zv126 4 rfl rfl (by kernel_rfl) (fun _ _ _ h => h) (by kernel_rfl) ?zy126 (by assumption) ?zr126
  case zy126 => (intro w hSw; (try dsimp only at hSw); go_simp; try with_reducible rfl)
  simp only [Act.put, aput]
  refine wtk 1 ?zv127 5 rfl rfl (by kernel_rfl) (fun _ _ _ h => h) (by kernel_rfl) ?zy127 (by assumption) ?zr127
  case zy127 => (intro w hSw; (try dsimp only at hSw); go_simp; try with_reducible rfl)
  simp only [Act.put, aput]
  refine wpAnyH_ready (rs := [2]) (by kernel_rfl) (by simp) (AllReadyH.cons rfl (fun K hK => ?_) AllReadyH.nil)
  go_simp
  go_at_call 50
  refine (skey_yes _ _ h0 h1).mono ?_
  rintro e w' ⟨rfl, rfl⟩
  refine hK.out _ _ (feed_cells HK.out) (fun hHeld => ?_)
  clear hK K
  (try simp only [Act.put, aput])
  refine wtk 3 ?zv128 7 rfl rfl (by kernel_rfl) (fun _ _ _ h => h) (by kernel_rfl) ?zy128 (by assumption) ?zr128
  case zy128 => (intro w hSw; (try dsimp only at hSw); go_simp; try with_reducible rfl)
  simp only [Act.put, aput]
  refine wtk 4 ?zv129 8 rfl rfl (by kernel_rfl) (fun _ _ _ h => h) (by kernel_rfl) ?zy129 (by assumption) ?zr129
  case zy129 => (intro w hSw; (try dsimp only at hSw); go_simp; try with_reducible rfl)
  simp only [Act.put, aput]
  refine wtk 5 ?zv130 9 rfl rfl (by kernel_rfl) (fun _ _ _ h => h) (by kernel_rfl) ?zy130 (by assumption) ?zr130
  case zy130 => (intro w hSw; (try dsimp only at hSw); go_simp; try with_reducible rfl)
  simp only [Act.put, aput]
  refine wtk 6 ?zv131 10 rfl rfl (by kernel_rfl) (fun _ _ _ h => h) (by kernel_rfl) ?zy131 (by assumption) ?zr131
  case zy131 => (intro w hSw; (try dsimp only at hSw); go_simp; try with_reducible rfl)
  simp only [Act.put, aput]
  refine wpAnyH_ready (rs := [7]) (by kernel_rfl) (by simp) (AllReadyH.cons rfl (fun K hK => ?_) AllReadyH.nil)
  go_simp
  go_at_call 54
  refine (empty_any _).mono ?_
  rintro e w1 ⟨rfl, hb1⟩
  have HB1 : Hid (Below W.heap.size W w1) := below_drew_l hb1
  have HK1 := Lib.hid (HK.out.below HB1.out hzW)
  clear hb1
  refine hK.out _ _ (feed_cells HK1.out) (fun hHeld => ?_)
  clear hK K
  (try simp only [Act.put, aput])
  refine wtk 8 ?zv132 12 rfl rfl (by kernel_rfl) (fun _ _ _ h => h) (by kernel_rfl) ?zy132 (by assumption) ?zr132
  case zy132 => (intro w hSw; (try dsimp only at hSw); go_simp; try with_reducible rfl)
  simp only [Act.put, aput]
  refine wtk 9 ?zv133 13 rfl rfl (by kernel_rfl) (fun _ _ _ h => h) (by kernel_rfl) ?zy133 (by assumption) ?zr133
  case zy133 => (intro w hSw; (try dsimp only at hSw); go_simp; try with_reducible rfl)
  simp only [Act.put, aput]
  refine wtk 10 ?zv134 14 rfl rfl (by kernel_rfl) (fun _ _ _ h => h) (by kernel_rfl) ?zy134 (by assumption) ?zr134
  case zy134 => (intro w hSw; (try dsimp only at hSw); go_simp; try with_reducible rfl)
  simp only [Act.put, aput]
  refine wtk 11 ?zv135 15 rfl rfl (by kernel_rfl) (fun _ _ _ h => h) (by kernel_rfl) ?zy135 (by assumption) ?zr135
  case zy135 => (intro w hSw; (try dsimp only at hSw); go_simp; try with_reducible rfl)
  simp only [Act.put, aput]
  refine wtk 12 ?zv136 16 rfl rfl (by kernel_rfl) (fun _ _ _ h => h) (by kernel_rfl) ?zy136 (by assumption) ?zr136
  case zy136 => (intro w hSw; (try dsimp only at hSw); go_simp; try with_reducible rfl)
  simp only [Act.put, aput]
  refine wtk 13 ?zv137 17 rfl rfl (by kernel_rfl) (fun _ _ _ h => h) (by kernel_rfl) ?zy137 (by assumption) ?zr137
  case zy137 => (intro w hSw; (try dsimp only at hSw); go_simp; try with_reducible rfl)
  simp only [Act.put, aput]
  refine wpAnyH_ready (rs := [14]) (by kernel_rfl) (by simp) (AllReadyH.cons rfl (fun K hK => ?_) AllReadyH.nil)
  go_simp
  go_at_call 55
  refine (scheck_any p 0 d s _).mono ?_
  rintro e w2 ⟨rfl, hb2⟩
  rw [HS.out]
  have HB2 := Lib.hid hb2
  have HK2 := Lib.hid (HK1.out.below HB2.out (Nat.lt_of_lt_of_le hzW HB1.out.size))
  clear hb2
  refine hK.out _ _ (feed_cells HK2.out) (fun hHeld => ?_)
  clear hK K
  (try simp only [Act.put, aput])
  refine wtk 15 ?zv138 19 rfl rfl (by kernel_rfl) (fun _ _ _ h => h) (by kernel_rfl) ?zy138 (by assumption) ?zr138
  case zy138 => (intro w hSw; (try dsimp only at hSw); go_simp; try with_reducible rfl)
  simp only [Act.put, aput]
  refine wtk 16 ?zv139 20 rfl rfl (by kernel_rfl) (fun _ _ _ h => h) (by kernel_rfl) ?zy139 (by assumption) ?zr139
  case zy139 => (intro w hSw; (try dsimp only at hSw); go_simp; try with_reducible rfl)
  simp only [Act.put, aput]
  refine wtk 17 ?zv140 21 rfl rfl (by kernel_rfl) (fun _ _ _ h => h) (by kernel_rfl) ?zy140 (by assumption) ?zr140
  case zy140 => (intro w hSw; (try dsimp only at hSw); go_simp; try with_reducible rfl)
  simp only [Act.put, aput]
  refine wtk 18 ?zv141 22 rfl rfl (by kernel_rfl) (fun _ _ _ h => h) (by kernel_rfl) ?zy141 (by assumption) ?zr141
  case zy141 => (intro w hSw; (try dsimp only at hSw); go_simp; try with_reducible rfl)
  simp only [Act.put, aput]
  refine wtk 19 ?zv142 23 rfl rfl (by kernel_rfl) (fun _ _ _ h => h) (by kernel_rfl) ?zy142 (by assumption) ?zr142
  case zy142 => (intro w hSw; (try dsimp only at hSw); go_simp; try with_reducible rfl)
  simp only [Act.put, aput]
  refine wtk 20 ?zv143 24 rfl rfl (by kernel_rfl) (fun _ _ _ h => h) (by kernel_rfl) ?zy143 (by assumption) ?zr143
  case zy143 => (intro w hSw; (try dsimp only at hSw); go_simp; try with_reducible rfl)
  simp only [Act.put, aput]
  refine wtk 21 ?zv144 25 rfl rfl (by kernel_rfl) (fun _ _ _ h => h) (by kernel_rfl) ?zy144 (by assumption) ?zr144
  case zy144 => (intro w hSw; (try dsimp only at hSw); go_simp; try with_reducible rfl)
  simp only [Act.put, aput]
  refine wtk 22 ?zv145 26 rfl rfl (by kernel_rfl) (fun _ _ _ h => h) (by kernel_rfl) ?zy145 (by assumption) ?zr145
  case zy145 => (intro w hSw; (try dsimp only at hSw); go_simp; try with_reducible rfl)
  simp only [Act.put, aput]
  refine wtk 23 ?zv146 27 rfl rfl (by kernel_rfl) (fun _ _ _ h => h) (by kernel_rfl) ?zy146 (by assumption) ?zr146
  case zy146 => (intro w hSw; (try dsimp only at hSw); go_simp; try with_reducible rfl)
  simp only [Act.put, aput]
  refine wtk 24 ?zv147 28 rfl rfl (by kernel_rfl) (fun _ _ _ h => h) (by kernel_rfl) ?zy147 (by assumption) ?zr147
  case zy147 => (intro w hSw; (try dsimp only at hSw); go_simp; try with_reducible rfl)
  simp only [Act.put, aput]
  refine wtk 25 ?zv148 29 rfl rfl (by kernel_rfl) (fun _ _ _ h => h) (by kernel_rfl) ?zy148 (by assumption) ?zr148
  case zy148 => (intro w hSw; (try dsimp only at hSw); go_simp; try with_reducible rfl)
  simp only [Act.put, aput]
  refine wtk 26 ?zv149 30 rfl rfl (by kernel_rfl) (fun _ _ _ h => h) (by kernel_rfl) ?zy149 (by assumption) ?zr149
  case zy149 => (intro w hSw; (try dsimp only at hSw); go_simp; try with_reducible rfl)
  simp only [Act.put, aput]
  refine wtk 27 ?zv150 31 rfl rfl (by kernel_rfl) (fun _ _ _ h => h) (by kernel_rfl) ?zy150 (by assumption) ?zr150
  case zy150 => (intro w hSw; (try dsimp only at hSw); go_simp; try with_reducible rfl)
  simp only [Act.put, aput]
  refine wtu 28 32 rfl rfl (by kernel_rfl) (fun _ _ _ h => h) (by kernel_rfl) (by assumption) ?_
  simp only [Act.put, aput]
  refine wtu 29 33 rfl rfl (by kernel_rfl) (fun _ _ _ h => h) (by kernel_rfl) (by assumption) ?_
  simp only [Act.put, aput]
  refine wtu 30 34 rfl rfl (by kernel_rfl) (fun _ _ _ h => h) (by kernel_rfl) (by assumption) ?_
  simp only [Act.put, aput]
  refine wtu 31 35 rfl rfl (by kernel_rfl) (fun _ _ _ h => h) (by kernel_rfl) (by assumption) ?_
  simp only [Act.put, aput]
  refine wtu 32 36 rfl rfl (by kernel_rfl) (fun _ _ _ h => h) (by kernel_rfl) (by assumption) ?_
  simp only [Act.put, aput]
  refine wtu 33 37 rfl rfl (by kernel_rfl) (fun _ _ _ h => h) (by kernel_rfl) (by assumption) ?_
  simp only [Act.put, aput]
  refine wtu 34 38 rfl rfl (by kernel_rfl) (fun _ _ _ h => h) (by kernel_rfl) (by assumption) ?_
  simp only [Act.put, aput]
  refine wtk 35 ?zv151 39 rfl rfl (by kernel_rfl) (fun _ _ _ h => h) (by kernel_rfl) ?zy151 (by assumption) ?zr151
  case zy151 => (intro w hSw; (try dsimp only at hSw); go_simp; try with_reducible rfl)
  simp only [Act.put, aput]
  refine wpAnyH_done (by kernel_rfl) ?_ _
  have HBE : Hid (Below w.heap.size w w2) := HB.out.trans ((HB1.out.mono HB.out.size).trans (HB2.out.mono (Nat.le_trans HB.out.size HB1.out.size)))
  have HKE := HK2
  go_wp2
  go_ret
  exact ⟨rfl, HBE.out⟩

set_option maxHeartbeats 8000000 in
set_option maxRecDepth 100000 in
theorem sfv_lensB2 (p d s : Int) (A1 : Option Addr) (c1 : Nat) (A2 : Option Addr) (n2 c2 : Nat) (w : World) (hb1 : 0 ≤ maxLen) (hb2 : n2 ≤ maxLen) (h0 : 1 ≤ p) (h1 : p < 997) (hx : ¬ d = 0) (hS : signedB p 0 d s = true) (hn : ¬ n2 = 0) :
    Calls Tryz.prog 21 #[feedV p 0 d s A1 0 c1 A2 n2 c2] w fun e w' => e = .returned (.bool false) ∧ Below w.heap.size w w' := by
  unfold maxLen at hb1 hb2
  have HS := Lib.hid hS
  clear hS
  have hnb : ((n2 : Int) != 0) = true := by rw [bne_iff_ne]; omega
  obtain ⟨W, HW⟩ : ∃ W, Hid (w.alloc (.cells (feedC p 0 d s A1 0 c1 A2 n2 c2) 56) = W) := ⟨_, rfl⟩
  have HK : Hid (Blk W w.heap.size 56 (feedC p 0 d s A1 0 c1 A2 n2 c2)) := by rw [← HW.out]; exact Blk.new w _ _
  have HB : Hid (Below w.heap.size w W) := by rw [← HW.out]; exact (Below.refl _ w).alloc (Nat.le_refl _) _
  have hzW : w.heap.size < W.heap.size := HK.out.lt
  obtain ⟨k0, k1, k2, k3, k4, k5⟩ := feed_cells HK.out
  go_enter Tryz.func21, Tryz.ntmps21
  go_wp2_with fail
  rw [HW.out]
  refine wp_region_held_drew (S := (fun w' => w'.cell? ⟨w.heap.size, 0, none⟩ = some (.int .i64 p) ∧ w'.cell? ⟨w.heap.size, 1, none⟩ = some (.int .i64 0) ∧ w'.cell? ⟨w.heap.size, 2, none⟩ = some (.int .i64 d) ∧ w'.cell? ⟨w.heap.size, 3, none⟩ = some (.int .i64 s) ∧ w'.cell? ⟨w.heap.size, 4, none⟩ = some (.slice A1 0 c1) ∧ w'.cell? ⟨w.heap.size, 5, none⟩ = some (.slice A2 n2 c2))) (by kernel_rfl) (feed_cells HK.out) (fun hHeld => ?_)
  refine wtk 0 ?zv152 4 rfl rfl (by kernel_rfl) (fun _ _ _ h => h) (by kernel_rfl) ?zy152 (by assumption) ?zr152
  case zy152 => (intro w hSw; (try dsimp only at hSw); go_simp; try with_reducible rfl)
  simp only [Act.put, aput]
  refine wtk 1 ?zv153 5 rfl rfl (by kernel_rfl) (fun _ _ _ h => h) (by kernel_rfl) ?zy153 (by assumption) ?zr153
  case zy153 => (intro w hSw; (try dsimp only at hSw); go_simp; try with_reducible rfl)
  simp only [Act.put, aput]
  refine wpAnyH_ready (rs := [2]) (by kernel_rfl) (by simp) (AllReadyH.cons rfl (fun K hK => ?_) AllReadyH.nil)
  go_simp
  go_at_call 50
  refine (skey_yes _ _ h0 h1).mono ?_
  rintro e w' ⟨rfl, rfl⟩
  refine hK.out _ _ (feed_cells HK.out) (fun hHeld => ?_)
  clear hK K
  (try simp only [Act.put, aput])
  refine wtk 3 ?zv154 7 rfl rfl (by kernel_rfl) (fun _ _ _ h => h) (by kernel_rfl) ?zy154 (by assumption) ?zr154
  case zy154 => (intro w hSw; (try dsimp only at hSw); go_simp; try with_reducible rfl)
  simp only [Act.put, aput]
  refine wtk 4 ?zv155 8 rfl rfl (by kernel_rfl) (fun _ _ _ h => h) (by kernel_rfl) ?zy155 (by assumption) ?zr155
  case zy155 => (intro w hSw; (try dsimp only at hSw); go_simp; try with_reducible rfl)
  simp only [Act.put, aput]
  refine wtk 5 ?zv156 9 rfl rfl (by kernel_rfl) (fun _ _ _ h => h) (by kernel_rfl) ?zy156 (by assumption) ?zr156
  case zy156 => (intro w hSw; (try dsimp only at hSw); go_simp; try with_reducible rfl)
  simp only [Act.put, aput]
  refine wtk 6 ?zv157 10 rfl rfl (by kernel_rfl) (fun _ _ _ h => h) (by kernel_rfl) ?zy157 (by assumption) ?zr157
  case zy157 => (intro w hSw; (try dsimp only at hSw); go_simp; try with_reducible rfl)
  simp only [Act.put, aput]
  refine wpAnyH_ready (rs := [7]) (by kernel_rfl) (by simp) (AllReadyH.cons rfl (fun K hK => ?_) AllReadyH.nil)
  go_simp
  go_at_call 54
  refine (empty_any _).mono ?_
  rintro e w1 ⟨rfl, hb1⟩
  have HB1 : Hid (Below W.heap.size W w1) := below_drew_l hb1
  have HK1 := Lib.hid (HK.out.below HB1.out hzW)
  clear hb1
  refine hK.out _ _ (feed_cells HK1.out) (fun hHeld => ?_)
  clear hK K
  (try simp only [Act.put, aput])
  refine wtk 8 ?zv158 12 rfl rfl (by kernel_rfl) (fun _ _ _ h => h) (by kernel_rfl) ?zy158 (by assumption) ?zr158
  case zy158 => (intro w hSw; (try dsimp only at hSw); go_simp; try with_reducible rfl)
  simp only [Act.put, aput]
  refine wtk 9 ?zv159 13 rfl rfl (by kernel_rfl) (fun _ _ _ h => h) (by kernel_rfl) ?zy159 (by assumption) ?zr159
  case zy159 => (intro w hSw; (try dsimp only at hSw); go_simp; try with_reducible rfl)
  simp only [Act.put, aput]
  refine wtk 10 ?zv160 14 rfl rfl (by kernel_rfl) (fun _ _ _ h => h) (by kernel_rfl) ?zy160 (by assumption) ?zr160
  case zy160 => (intro w hSw; (try dsimp only at hSw); go_simp; try with_reducible rfl)
  simp only [Act.put, aput]
  refine wtk 11 ?zv161 15 rfl rfl (by kernel_rfl) (fun _ _ _ h => h) (by kernel_rfl) ?zy161 (by assumption) ?zr161
  case zy161 => (intro w hSw; (try dsimp only at hSw); go_simp; try with_reducible rfl)
  simp only [Act.put, aput]
  refine wtk 12 ?zv162 16 rfl rfl (by kernel_rfl) (fun _ _ _ h => h) (by kernel_rfl) ?zy162 (by assumption) ?zr162
  case zy162 => (intro w hSw; (try dsimp only at hSw); go_simp; try with_reducible rfl)
  simp only [Act.put, aput]
  refine wtk 13 ?zv163 17 rfl rfl (by kernel_rfl) (fun _ _ _ h => h) (by kernel_rfl) ?zy163 (by assumption) ?zr163
  case zy163 => (intro w hSw; (try dsimp only at hSw); go_simp; try with_reducible rfl)
  simp only [Act.put, aput]
  refine wpAnyH_ready (rs := [14]) (by kernel_rfl) (by simp) (AllReadyH.cons rfl (fun K hK => ?_) AllReadyH.nil)
  go_simp
  go_at_call 55
  refine (scheck_any p 0 d s _).mono ?_
  rintro e w2 ⟨rfl, hb2⟩
  rw [HS.out]
  have HB2 := Lib.hid hb2
  have HK2 := Lib.hid (HK1.out.below HB2.out (Nat.lt_of_lt_of_le hzW HB1.out.size))
  clear hb2
  refine hK.out _ _ (feed_cells HK2.out) (fun hHeld => ?_)
  clear hK K
  (try simp only [Act.put, aput])
  refine wtk 15 ?zv164 19 rfl rfl (by kernel_rfl) (fun _ _ _ h => h) (by kernel_rfl) ?zy164 (by assumption) ?zr164
  case zy164 => (intro w hSw; (try dsimp only at hSw); go_simp; try with_reducible rfl)
  simp only [Act.put, aput]
  refine wtk 16 ?zv165 20 rfl rfl (by kernel_rfl) (fun _ _ _ h => h) (by kernel_rfl) ?zy165 (by assumption) ?zr165
  case zy165 => (intro w hSw; (try dsimp only at hSw); go_simp; try with_reducible rfl)
  simp only [Act.put, aput]
  refine wtk 17 ?zv166 21 rfl rfl (by kernel_rfl) (fun _ _ _ h => h) (by kernel_rfl) ?zy166 (by assumption) ?zr166
  case zy166 => (intro w hSw; (try dsimp only at hSw); go_simp; try with_reducible rfl)
  simp only [Act.put, aput]
  refine wtk 18 ?zv167 22 rfl rfl (by kernel_rfl) (fun _ _ _ h => h) (by kernel_rfl) ?zy167 (by assumption) ?zr167
  case zy167 => (intro w hSw; (try dsimp only at hSw); go_simp; try with_reducible rfl)
  simp only [Act.put, aput]
  refine wtk 19 ?zv168 23 rfl rfl (by kernel_rfl) (fun _ _ _ h => h) (by kernel_rfl) ?zy168 (by assumption) ?zr168
  case zy168 => (intro w hSw; (try dsimp only at hSw); go_simp; try with_reducible rfl)
  simp only [Act.put, aput]
  refine wtk 20 ?zv169 24 rfl rfl (by kernel_rfl) (fun _ _ _ h => h) (by kernel_rfl) ?zy169 (by assumption) ?zr169
  case zy169 => (intro w hSw; (try dsimp only at hSw); go_simp; try with_reducible rfl)
  simp only [Act.put, aput]
  refine wtk 21 ?zv170 25 rfl rfl (by kernel_rfl) (fun _ _ _ h => h) (by kernel_rfl) ?zy170 (by assumption) ?zr170
  case zy170 => (intro w hSw; (try dsimp only at hSw); go_simp; try with_reducible rfl)
  simp only [Act.put, aput]
  refine wtk 22 ?zv171 26 rfl rfl (by kernel_rfl) (fun _ _ _ h => h) (by kernel_rfl) ?zy171 (by assumption) ?zr171
  case zy171 => (intro w hSw; (try dsimp only at hSw); go_simp; try with_reducible rfl)
  simp only [Act.put, aput]
  refine wtk 23 ?zv172 27 rfl rfl (by kernel_rfl) (fun _ _ _ h => h) (by kernel_rfl) ?zy172 (by assumption) ?zr172
  case zy172 => (intro w hSw; (try dsimp only at hSw); go_simp; try with_reducible rfl)
  simp only [Act.put, aput]
  refine wtk 24 ?zv173 28 rfl rfl (by kernel_rfl) (fun _ _ _ h => h) (by kernel_rfl) ?zy173 (by assumption) ?zr173
  case zy173 => (intro w hSw; (try dsimp only at hSw); go_simp; try with_reducible rfl)
  simp only [Act.put, aput]
  refine wtk 25 ?zv174 29 rfl rfl (by kernel_rfl) (fun _ _ _ h => h) (by kernel_rfl) ?zy174 (by assumption) ?zr174
  case zy174 => (intro w hSw; (try dsimp only at hSw); go_simp; try with_reducible rfl)
  simp only [Act.put, aput]
  refine wtk 26 ?zv175 30 rfl rfl (by kernel_rfl) (fun _ _ _ h => h) (by kernel_rfl) ?zy175 (by assumption) ?zr175
  case zy175 => (intro w hSw; (try dsimp only at hSw); go_simp; try with_reducible rfl)
  simp only [Act.put, aput]
  refine wtk 27 ?zv176 31 rfl rfl (by kernel_rfl) (fun _ _ _ h => h) (by kernel_rfl) ?zy176 (by assumption) ?zr176
  case zy176 => (intro w hSw; (try dsimp only at hSw); go_simp; try with_reducible rfl)
  simp only [Act.put, aput]
  refine wtk 28 ?zv177 32 rfl rfl (by kernel_rfl) (fun _ _ _ h => h) (by kernel_rfl) ?zy177 (by assumption) ?zr177
  case zy177 => (intro w hSw; (try dsimp only at hSw); go_simp; try with_reducible rfl)
  simp only [Act.put, aput]
  refine wtk 29 ?zv178 33 rfl rfl (by kernel_rfl) (fun _ _ _ h => h) (by kernel_rfl) ?zy178 (by assumption) ?zr178
  case zy178 => (intro w hSw; (try dsimp only at hSw); go_simp; try with_reducible rfl)
  simp only [Act.put, aput]
  refine wtk 30 ?zv179 34 rfl rfl (by kernel_rfl) (fun _ _ _ h => h) (by kernel_rfl) ?zy179 (by assumption) ?zr179
  case zy179 => (intro w hSw; (try dsimp only at hSw); go_simp; try with_reducible rfl)
  simp only [Act.put, aput]
  refine wtk 31 ?zv180 35 rfl rfl (by kernel_rfl) (fun _ _ _ h => h) (by kernel_rfl) ?zy180 (by assumption) ?zr180
  case zy180 => (intro w hSw; (try dsimp only at hSw); go_simp; try with_reducible rfl)
  simp only [Act.put, aput]
  refine wtk 32 ?zv181 36 rfl rfl (by kernel_rfl) (fun _ _ _ h => h) (by kernel_rfl) ?zy181 (by assumption) ?zr181
  case zy181 => (intro w hSw; (try dsimp only at hSw); go_simp; try with_reducible rfl)
  simp only [Act.put, aput]
  refine wtk 33 ?zv182 37 rfl rfl (by kernel_rfl) (fun _ _ _ h => h) (by kernel_rfl) ?zy182 (by assumption) ?zr182
  case zy182 => (intro w hSw; (try dsimp only at hSw); go_simp; try with_reducible rfl)
  simp only [Act.put, aput]
  refine wtk 34 ?zv183 38 rfl rfl (by kernel_rfl) (fun _ _ _ h => h) (by kernel_rfl) ?zy183 (by assumption) ?zr183
  case zy183 => (intro w hSw; (try dsimp only at hSw); go_simp; try with_reducible rfl)
  simp only [Act.put, aput]
  refine wtk 35 ?zv184 39 rfl rfl (by kernel_rfl) (fun _ _ _ h => h) (by kernel_rfl) ?zy184 (by assumption) ?zr184
  case zy184 => (intro w hSw; (try dsimp only at hSw); go_simp; try with_reducible rfl)
  simp only [Act.put, aput]
  refine wpAnyH_done (by kernel_rfl) ?_ _
  have HBE : Hid (Below w.heap.size w w2) := HB.out.trans ((HB1.out.mono HB.out.size).trans (HB2.out.mono (Nat.le_trans HB.out.size HB1.out.size)))
  have HKE := HK2
  go_wp2
  go_ret
  exact ⟨rfl, HBE.out⟩

end Go.Proofs.YtkmebilhbjcfpaaGreat
