/- Cases of the model of FeedValid: it changes nothing that was there. Condition: the feed lies in memory. Cases of the model of FeedValid: it changes nothing that was there. Condition: the feed lies in memory. -/
import Derived.Test.YtkmebilhbjcfpaaGreatBaseA
import Derived.Test.YtkmebilhbjcfpaaGreatSFeedWhole
namespace Go.Proofs.YtkmebilhbjcfpaaGreat
open Go.RowKit
set_option linter.unusedVariables false

set_option maxHeartbeats 8000000 in
set_option maxRecDepth 100000 in
theorem sfv_lensC1 (p s : Int) (A1 : Option Addr) (n1 c1 : Nat) (A2 : Option Addr) (n2 c2 : Nat) (w : World) (hb1 : n1 ≤ maxLen) (hb2 : n2 ≤ maxLen) (h0 : 1 ≤ p) (h1 : p < 997) (hx : ¬ s = 0) (hS : signedB p 0 0 s = true) (hn : ¬ n1 = 0) :
    Calls Tryz.prog 21 #[feedV p 0 0 s A1 n1 c1 A2 n2 c2] w fun e w' => e = .returned (.bool false) ∧ Below w.heap.size w w' := by
  unfold maxLen at hb1 hb2
  have HS := Lib.hid hS
  clear hS
  have hnb : ((n1 : Int) != 0) = true := by rw [bne_iff_ne]; omega
  obtain ⟨W, HW⟩ : ∃ W, Hid (w.alloc (.cells (feedC p 0 0 s A1 n1 c1 A2 n2 c2) 56) = W) := ⟨_, rfl⟩
  have HK : Hid (Blk W w.heap.size 56 (feedC p 0 0 s A1 n1 c1 A2 n2 c2)) := by rw [← HW.out]; exact Blk.new w _ _
  have HB : Hid (Below w.heap.size w W) := by rw [← HW.out]; exact (Below.refl _ w).alloc (Nat.le_refl _) _
  have hzW : w.heap.size < W.heap.size := HK.out.lt
  obtain ⟨k0, k1, k2, k3, k4, k5⟩ := feed_cells HK.out
  go_enter Tryz.func21, Tryz.ntmps21
  go_wp2_with fail
  rw [HW.out]
  refine wp_region_held_drew (S := (fun w' => w'.cell? ⟨w.heap.size, 0, none⟩ = some (.int .i64 p) ∧ w'.cell? ⟨w.heap.size, 1, none⟩ = some (.int .i64 0) ∧ w'.cell? ⟨w.heap.size, 2, none⟩ = some (.int .i64 0) ∧ w'.cell? ⟨w.heap.size, 3, none⟩ = some (.int .i64 s) ∧ w'.cell? ⟨w.heap.size, 4, none⟩ = some (.slice A1 n1 c1) ∧ w'.cell? ⟨w.heap.size, 5, none⟩ = some (.slice A2 n2 c2))) (by kernel_rfl) (feed_cells HK.out) (fun hHeld => ?_)
  refine wtk 0 ?zv185 4 rfl rfl (by kernel_rfl) (fun _ _ _ h => h) (by kernel_rfl) ?zy185 (by assumption) ?zr185
  case zy185 => (intro w hSw; (try dsimp only at hSw); go_simp; try with_reducible rfl)
  simp only [Act.put, aput]
  refine wtk 1 ?zv186 5 rfl rfl (by kernel_rfl) (fun _ _ _ h => h) (by kernel_rfl) ?zy186 (by assumption) ?zr186
  case zy186 => (intro w hSw; (try dsimp only at hSw); go_simp; try with_reducible rfl)
  simp only [Act.put, aput]
  refine wpAnyH_ready (rs := [2]) (by kernel_rfl) (by simp) (AllReadyH.cons rfl (fun K hK => ?_) AllReadyH.nil)
  go_simp
  go_at_call 50
  refine (skey_yes _ _ h0 h1).mono ?_
  rintro e w' ⟨rfl, rfl⟩
  refine hK.out _ _ (feed_cells HK.out) (fun hHeld => ?_)
  clear hK K
  (try simp only [Act.put, aput])
  refine wtk 3 ?zv187 7 rfl rfl (by kernel_rfl) (fun _ _ _ h => h) (by kernel_rfl) ?zy187 (by assumption) ?zr187
  case zy187 => (intro w hSw; (try dsimp only at hSw); go_simp; try with_reducible rfl)
  simp only [Act.put, aput]
  refine wtk 4 ?zv188 8 rfl rfl (by kernel_rfl) (fun _ _ _ h => h) (by kernel_rfl) ?zy188 (by assumption) ?zr188
  case zy188 => (intro w hSw; (try dsimp only at hSw); go_simp; try with_reducible rfl)
  simp only [Act.put, aput]
  refine wtk 5 ?zv189 9 rfl rfl (by kernel_rfl) (fun _ _ _ h => h) (by kernel_rfl) ?zy189 (by assumption) ?zr189
  case zy189 => (intro w hSw; (try dsimp only at hSw); go_simp; try with_reducible rfl)
  simp only [Act.put, aput]
  refine wtk 6 ?zv190 10 rfl rfl (by kernel_rfl) (fun _ _ _ h => h) (by kernel_rfl) ?zy190 (by assumption) ?zr190
  case zy190 => (intro w hSw; (try dsimp only at hSw); go_simp; try with_reducible rfl)
  simp only [Act.put, aput]
  refine wpAnyH_ready (rs := [7]) (by kernel_rfl) (by simp) (AllReadyH.cons rfl (fun K hK => ?_) AllReadyH.nil)
  go_simp
  go_at_call 54
  refine (empty_any _).mono ?_
  rintro e w1 ⟨rfl, hb1⟩
  have HB1 : Hid (Below W.heap.size W w1) := below_drew_l hb1
  have HK1 := Lib.hid (HK.out.below HB1.out hzW)
  clear hb1
  refine hK.out _ _ (feed_cells HK1.out) (fun hHeld => ?_)
  clear hK K
  (try simp only [Act.put, aput])
  refine wtk 8 ?zv191 12 rfl rfl (by kernel_rfl) (fun _ _ _ h => h) (by kernel_rfl) ?zy191 (by assumption) ?zr191
  case zy191 => (intro w hSw; (try dsimp only at hSw); go_simp; try with_reducible rfl)
  simp only [Act.put, aput]
  refine wtk 9 ?zv192 13 rfl rfl (by kernel_rfl) (fun _ _ _ h => h) (by kernel_rfl) ?zy192 (by assumption) ?zr192
  case zy192 => (intro w hSw; (try dsimp only at hSw); go_simp; try with_reducible rfl)
  simp only [Act.put, aput]
  refine wtk 10 ?zv193 14 rfl rfl (by kernel_rfl) (fun _ _ _ h => h) (by kernel_rfl) ?zy193 (by assumption) ?zr193
  case zy193 => (intro w hSw; (try dsimp only at hSw); go_simp; try with_reducible rfl)
  simp only [Act.put, aput]
  refine wtk 11 ?zv194 15 rfl rfl (by kernel_rfl) (fun _ _ _ h => h) (by kernel_rfl) ?zy194 (by assumption) ?zr194
  case zy194 => (intro w hSw; (try dsimp only at hSw); go_simp; try with_reducible rfl)
  simp only [Act.put, aput]
  refine wtk 12 ?zv195 16 rfl rfl (by kernel_rfl) (fun _ _ _ h => h) (by kernel_rfl) ?zy195 (by assumption) ?zr195
  case zy195 => (intro w hSw; (try dsimp only at hSw); go_simp; try with_reducible rfl)
  simp only [Act.put, aput]
  refine wtk 13 ?zv196 17 rfl rfl (by kernel_rfl) (fun _ _ _ h => h) (by kernel_rfl) ?zy196 (by assumption) ?zr196
  case zy196 => (intro w hSw; (try dsimp only at hSw); go_simp; try with_reducible rfl)
  simp only [Act.put, aput]
  refine wpAnyH_ready (rs := [14]) (by kernel_rfl) (by simp) (AllReadyH.cons rfl (fun K hK => ?_) AllReadyH.nil)
  go_simp
  go_at_call 55
  refine (scheck_any p 0 0 s _).mono ?_
  rintro e w2 ⟨rfl, hb2⟩
  rw [HS.out]
  have HB2 := Lib.hid hb2
  have HK2 := Lib.hid (HK1.out.below HB2.out (Nat.lt_of_lt_of_le hzW HB1.out.size))
  clear hb2
  refine hK.out _ _ (feed_cells HK2.out) (fun hHeld => ?_)
  clear hK K
  (try simp only [Act.put, aput])
  refine wtk 15 ?zv197 19 rfl rfl (by kernel_rfl) (fun _ _ _ h => h) (by kernel_rfl) ?zy197 (by assumption) ?zr197
  case zy197 => (intro w hSw; (try dsimp only at hSw); go_simp; try with_reducible rfl)
  simp only [Act.put, aput]
  refine wtk 16 ?zv198 20 rfl rfl (by kernel_rfl) (fun _ _ _ h => h) (by kernel_rfl) ?zy198 (by assumption) ?zr198
  case zy198 => (intro w hSw; (try dsimp only at hSw); go_simp; try with_reducible rfl)
  simp only [Act.put, aput]
  refine wtk 17 ?zv199 21 rfl rfl (by kernel_rfl) (fun _ _ _ h => h) (by kernel_rfl) ?zy199 (by assumption) ?zr199
  case zy199 => (intro w hSw; (try dsimp only at hSw); go_simp; try with_reducible rfl)
  simp only [Act.put, aput]
  refine wtk 18 ?zv200 22 rfl rfl (by kernel_rfl) (fun _ _ _ h => h) (by kernel_rfl) ?zy200 (by assumption) ?zr200
  case zy200 => (intro w hSw; (try dsimp only at hSw); go_simp; try with_reducible rfl)
  simp only [Act.put, aput]
  refine wtk 19 ?zv201 23 rfl rfl (by kernel_rfl) (fun _ _ _ h => h) (by kernel_rfl) ?zy201 (by assumption) ?zr201
  case zy201 => (intro w hSw; (try dsimp only at hSw); go_simp; try with_reducible rfl)
  simp only [Act.put, aput]
  refine wtk 20 ?zv202 24 rfl rfl (by kernel_rfl) (fun _ _ _ h => h) (by kernel_rfl) ?zy202 (by assumption) ?zr202
  case zy202 => (intro w hSw; (try dsimp only at hSw); go_simp; try with_reducible rfl)
  simp only [Act.put, aput]
  refine wtk 21 ?zv203 25 rfl rfl (by kernel_rfl) (fun _ _ _ h => h) (by kernel_rfl) ?zy203 (by assumption) ?zr203
  case zy203 => (intro w hSw; (try dsimp only at hSw); go_simp; try with_reducible rfl)
  simp only [Act.put, aput]
  refine wtk 22 ?zv204 26 rfl rfl (by kernel_rfl) (fun _ _ _ h => h) (by kernel_rfl) ?zy204 (by assumption) ?zr204
  case zy204 => (intro w hSw; (try dsimp only at hSw); go_simp; try with_reducible rfl)
  simp only [Act.put, aput]
  refine wtk 23 ?zv205 27 rfl rfl (by kernel_rfl) (fun _ _ _ h => h) (by kernel_rfl) ?zy205 (by assumption) ?zr205
  case zy205 => (intro w hSw; (try dsimp only at hSw); go_simp; try with_reducible rfl)
  simp only [Act.put, aput]
  refine wtk 24 ?zv206 28 rfl rfl (by kernel_rfl) (fun _ _ _ h => h) (by kernel_rfl) ?zy206 (by assumption) ?zr206
  case zy206 => (intro w hSw; (try dsimp only at hSw); go_simp; try with_reducible rfl)
  simp only [Act.put, aput]
  refine wtk 25 ?zv207 29 rfl rfl (by kernel_rfl) (fun _ _ _ h => h) (by kernel_rfl) ?zy207 (by assumption) ?zr207
  case zy207 => (intro w hSw; (try dsimp only at hSw); go_simp; try with_reducible rfl)
  simp only [Act.put, aput]
  refine wtk 26 ?zv208 30 rfl rfl (by kernel_rfl) (fun _ _ _ h => h) (by kernel_rfl) ?zy208 (by assumption) ?zr208
  case zy208 => (intro w hSw; (try dsimp only at hSw); go_simp; try with_reducible rfl)
  simp only [Act.put, aput]
  refine wtk 27 ?zv209 31 rfl rfl (by kernel_rfl) (fun _ _ _ h => h) (by kernel_rfl) ?zy209 (by assumption) ?zr209
  case zy209 => (intro w hSw; (try dsimp only at hSw); go_simp; try with_reducible rfl)
  simp only [Act.put, aput]
  refine wtu 28 32 rfl rfl (by kernel_rfl) (fun _ _ _ h => h) (by kernel_rfl) (by assumption) ?_
  simp only [Act.put, aput]
  refine wtu 29 33 rfl rfl (by kernel_rfl) (fun _ _ _ h => h) (by kernel_rfl) (by assumption) ?_
  simp only [Act.put, aput]
  refine wtu 30 34 rfl rfl (by kernel_rfl) (fun _ _ _ h => h) (by kernel_rfl) (by assumption) ?_
  simp only [Act.put, aput]
  refine wtu 31 35 rfl rfl (by kernel_rfl) (fun _ _ _ h => h) (by kernel_rfl) (by assumption) ?_
  simp only [Act.put, aput]
  refine wtu 32 36 rfl rfl (by kernel_rfl) (fun _ _ _ h => h) (by kernel_rfl) (by assumption) ?_
  simp only [Act.put, aput]
  refine wtu 33 37 rfl rfl (by kernel_rfl) (fun _ _ _ h => h) (by kernel_rfl) (by assumption) ?_
  simp only [Act.put, aput]
  refine wtu 34 38 rfl rfl (by kernel_rfl) (fun _ _ _ h => h) (by kernel_rfl) (by assumption) ?_
  simp only [Act.put, aput]
  refine wtk 35 ?zv210 39 rfl rfl (by kernel_rfl) (fun _ _ _ h => h) (by kernel_rfl) ?zy210 (by assumption) ?zr210
  case zy210 => (intro w hSw; (try dsimp only at hSw); go_simp; try with_reducible rfl)
  simp only [Act.put, aput]
  refine wpAnyH_done (by kernel_rfl) ?_ _
  have HBE : Hid (Below w.heap.size w w2) := HB.out.trans ((HB1.out.mono HB.out.size).trans (HB2.out.mono (Nat.le_trans HB.out.size HB1.out.size)))
  have HKE := HK2
  go_wp2
  go_ret
  exact ⟨rfl, HBE.out⟩

set_option maxHeartbeats 8000000 in
set_option maxRecDepth 100000 in
theorem sfv_lensC2 (p s : Int) (A1 : Option Addr) (c1 : Nat) (A2 : Option Addr) (n2 c2 : Nat) (w : World) (hb1 : 0 ≤ maxLen) (hb2 : n2 ≤ maxLen) (h0 : 1 ≤ p) (h1 : p < 997) (hx : ¬ s = 0) (hS : signedB p 0 0 s = true) (hn : ¬ n2 = 0) :
    Calls Tryz.prog 21 #[feedV p 0 0 s A1 0 c1 A2 n2 c2] w fun e w' => e = .returned (.bool false) ∧ Below w.heap.size w w' := by
  unfold maxLen at hb1 hb2
  have HS := Lib.hid hS
  clear hS
  have hnb : ((n2 : Int) != 0) = true := by rw [bne_iff_ne]; omega
  obtain ⟨W, HW⟩ : ∃ W, Hid (w.alloc (.cells (feedC p 0 0 s A1 0 c1 A2 n2 c2) 56) = W) := ⟨_, rfl⟩
  have HK : Hid (Blk W w.heap.size 56 (feedC p 0 0 s A1 0 c1 A2 n2 c2)) := by rw [← HW.out]; exact Blk.new w _ _
  have HB : Hid (Below w.heap.size w W) := by rw [← HW.out]; exact (Below.refl _ w).alloc (Nat.le_refl _) _
  have hzW : w.heap.size < W.heap.size := HK.out.lt
  obtain ⟨k0, k1, k2, k3, k4, k5⟩ := feed_cells HK.out
  go_enter Tryz.func21, Tryz.ntmps21
  go_wp2_with fail
  rw [HW.out]
  refine wp_region_held_drew (S := (fun w' => w'.cell? ⟨w.heap.size, 0, none⟩ = some (.int .i64 p) ∧ w'.cell? ⟨w.heap.size, 1, none⟩ = some (.int .i64 0) ∧ w'.cell? ⟨w.heap.size, 2, none⟩ = some (.int .i64 0) ∧ w'.cell? ⟨w.heap.size, 3, none⟩ = some (.int .i64 s) ∧ w'.cell? ⟨w.heap.size, 4, none⟩ = some (.slice A1 0 c1) ∧ w'.cell? ⟨w.heap.size, 5, none⟩ = some (.slice A2 n2 c2))) (by kernel_rfl) (feed_cells HK.out) (fun hHeld => ?_)
  refine wtk 0 ?zv211 4 rfl rfl (by kernel_rfl) (fun _ _ _ h => h) (by kernel_rfl) ?zy211 (by assumption) ?zr211
  case zy211 => (intro w hSw; (try dsimp only at hSw); go_simp; try with_reducible rfl)
  simp only [Act.put, aput]
  refine wtk 1 ?zv212 5 rfl rfl (by kernel_rfl) (fun _ _ _ h => h) (by kernel_rfl) ?zy212 (by assumption) ?zr212
  case zy212 => (intro w hSw; (try dsimp only at hSw); go_simp; try with_reducible rfl)
  simp only [Act.put, aput]
  refine wpAnyH_ready (rs := [2]) (by kernel_rfl) (by simp) (AllReadyH.cons rfl (fun K hK => ?_) AllReadyH.nil)
  go_simp
  go_at_call 50
  refine (skey_yes _ _ h0 h1).mono ?_
  rintro e w' ⟨rfl, rfl⟩
  refine hK.out _ _ (feed_cells HK.out) (fun hHeld => ?_)
  clear hK K
  (try simp only [Act.put, aput])
  refine wtk 3 ?zv213 7 rfl rfl (by kernel_rfl) (fun _ _ _ h => h) (by kernel_rfl) ?zy213 (by assumption) ?zr213
  case zy213 => (intro w hSw; (try dsimp only at hSw); go_simp; try with_reducible rfl)
  simp only [Act.put, aput]
  refine wtk 4 ?zv214 8 rfl rfl (by kernel_rfl) (fun _ _ _ h => h) (by kernel_rfl) ?zy214 (by assumption) ?zr214
  case zy214 => (intro w hSw; (try dsimp only at hSw); go_simp; try with_reducible rfl)
  simp only [Act.put, aput]
  refine wtk 5 ?zv215 9 rfl rfl (by kernel_rfl) (fun _ _ _ h => h) (by kernel_rfl) ?zy215 (by assumption) ?zr215
  case zy215 => (intro w hSw; (try dsimp only at hSw); go_simp; try with_reducible rfl)
  simp only [Act.put, aput]
  refine wtk 6 ?zv216 10 rfl rfl (by kernel_rfl) (fun _ _ _ h => h) (by kernel_rfl) ?zy216 (by assumption) ?zr216
  case zy216 => (intro w hSw; (try dsimp only at hSw); go_simp; try with_reducible rfl)
  simp only [Act.put, aput]
  refine wpAnyH_ready (rs := [7]) (by kernel_rfl) (by simp) (AllReadyH.cons rfl (fun K hK => ?_) AllReadyH.nil)
  go_simp
  go_at_call 54
  refine (empty_any _).mono ?_
  rintro e w1 ⟨rfl, hb1⟩
  have HB1 : Hid (Below W.heap.size W w1) := below_drew_l hb1
  have HK1 := Lib.hid (HK.out.below HB1.out hzW)
  clear hb1
  refine hK.out _ _ (feed_cells HK1.out) (fun hHeld => ?_)
  clear hK K
  (try simp only [Act.put, aput])
  refine wtk 8 ?zv217 12 rfl rfl (by kernel_rfl) (fun _ _ _ h => h) (by kernel_rfl) ?zy217 (by assumption) ?zr217
  case zy217 => (intro w hSw; (try dsimp only at hSw); go_simp; try with_reducible rfl)
  simp only [Act.put, aput]
  refine wtk 9 ?zv218 13 rfl rfl (by kernel_rfl) (fun _ _ _ h => h) (by kernel_rfl) ?zy218 (by assumption) ?zr218
  case zy218 => (intro w hSw; (try dsimp only at hSw); go_simp; try with_reducible rfl)
  simp only [Act.put, aput]
  refine wtk 10 ?zv219 14 rfl rfl (by kernel_rfl) (fun _ _ _ h => h) (by kernel_rfl) ?zy219 (by assumption) ?zr219
  case zy219 => (intro w hSw; (try dsimp only at hSw); go_simp; try with_reducible rfl)
  simp only [Act.put, aput]
  refine wtk 11 ?zv220 15 rfl rfl (by kernel_rfl) (fun _ _ _ h => h) (by kernel_rfl) ?zy220 (by assumption) ?zr220
  case zy220 => (intro w hSw; (try dsimp only at hSw); go_simp; try with_reducible rfl)
  simp only [Act.put, aput]
  refine wtk 12 ?zv221 16 rfl rfl (by kernel_rfl) (fun _ _ _ h => h) (by kernel_rfl) ?zy221 (by assumption) ?zr221
  case zy221 => (intro w hSw; (try dsimp only at hSw); go_simp; try with_reducible rfl)
  simp only [Act.put, aput]
  refine wtk 13 ?zv222 17 rfl rfl (by kernel_rfl) (fun _ _ _ h => h) (by kernel_rfl) ?zy222 (by assumption) ?zr222
  case zy222 => (intro w hSw; (try dsimp only at hSw); go_simp; try with_reducible rfl)
  simp only [Act.put, aput]
  refine wpAnyH_ready (rs := [14]) (by kernel_rfl) (by simp) (AllReadyH.cons rfl (fun K hK => ?_) AllReadyH.nil)
  go_simp
  go_at_call 55
  refine (scheck_any p 0 0 s _).mono ?_
  rintro e w2 ⟨rfl, hb2⟩
  rw [HS.out]
  have HB2 := Lib.hid hb2
  have HK2 := Lib.hid (HK1.out.below HB2.out (Nat.lt_of_lt_of_le hzW HB1.out.size))
  clear hb2
  refine hK.out _ _ (feed_cells HK2.out) (fun hHeld => ?_)
  clear hK K
  (try simp only [Act.put, aput])
  refine wtk 15 ?zv223 19 rfl rfl (by kernel_rfl) (fun _ _ _ h => h) (by kernel_rfl) ?zy223 (by assumption) ?zr223
  case zy223 => (intro w hSw; (try dsimp only at hSw); go_simp; try with_reducible rfl)
  simp only [Act.put, aput]
  refine wtk 16 ?zv224 20 rfl rfl (by kernel_rfl) (fun _ _ _ h => h) (by kernel_rfl) ?zy224 (by assumption) ?zr224
  case zy224 => (intro w hSw; (try dsimp only at hSw); go_simp; try with_reducible rfl)
  simp only [Act.put, aput]
  refine wtk 17 ?zv225 21 rfl rfl (by kernel_rfl) (fun _ _ _ h => h) (by kernel_rfl) ?zy225 (by assumption) ?zr225
  case zy225 => (intro w hSw; (try dsimp only at hSw); go_simp; try with_reducible rfl)
  simp only [Act.put, aput]
  refine wtk 18 ?zv226 22 rfl rfl (by kernel_rfl) (fun _ _ _ h => h) (by kernel_rfl) ?zy226 (by assumption) ?zr226
  case zy226 => (intro w hSw; (try dsimp only at hSw); go_simp; try with_reducible rfl)
  simp only [Act.put, aput]
  refine wtk 19 ?zv227 23 rfl rfl (by kernel_rfl) (fun _ _ _ h => h) (by kernel_rfl) ?zy227 (by assumption) ?zr227
  case zy227 => (intro w hSw; (try dsimp only at hSw); go_simp; try with_reducible rfl)
  simp only [Act.put, aput]
  refine wtk 20 ?zv228 24 rfl rfl (by kernel_rfl) (fun _ _ _ h => h) (by kernel_rfl) ?zy228 (by assumption) ?zr228
  case zy228 => (intro w hSw; (try dsimp only at hSw); go_simp; try with_reducible rfl)
  simp only [Act.put, aput]
  refine wtk 21 ?zv229 25 rfl rfl (by kernel_rfl) (fun _ _ _ h => h) (by kernel_rfl) ?zy229 (by assumption) ?zr229
  case zy229 => (intro w hSw; (try dsimp only at hSw); go_simp; try with_reducible rfl)
  simp only [Act.put, aput]
  refine wtk 22 ?zv230 26 rfl rfl (by kernel_rfl) (fun _ _ _ h => h) (by kernel_rfl) ?zy230 (by assumption) ?zr230
  case zy230 => (intro w hSw; (try dsimp only at hSw); go_simp; try with_reducible rfl)
  simp only [Act.put, aput]
  refine wtk 23 ?zv231 27 rfl rfl (by kernel_rfl) (fun _ _ _ h => h) (by kernel_rfl) ?zy231 (by assumption) ?zr231
  case zy231 => (intro w hSw; (try dsimp only at hSw); go_simp; try with_reducible rfl)
  simp only [Act.put, aput]
  refine wtk 24 ?zv232 28 rfl rfl (by kernel_rfl) (fun _ _ _ h => h) (by kernel_rfl) ?zy232 (by assumption) ?zr232
  case zy232 => (intro w hSw; (try dsimp only at hSw); go_simp; try with_reducible rfl)
  simp only [Act.put, aput]
  refine wtk 25 ?zv233 29 rfl rfl (by kernel_rfl) (fun _ _ _ h => h) (by kernel_rfl) ?zy233 (by assumption) ?zr233
  case zy233 => (intro w hSw; (try dsimp only at hSw); go_simp; try with_reducible rfl)
  simp only [Act.put, aput]
  refine wtk 26 ?zv234 30 rfl rfl (by kernel_rfl) (fun _ _ _ h => h) (by kernel_rfl) ?zy234 (by assumption) ?zr234
  case zy234 => (intro w hSw; (try dsimp only at hSw); go_simp; try with_reducible rfl)
  simp only [Act.put, aput]
  refine wtk 27 ?zv235 31 rfl rfl (by kernel_rfl) (fun _ _ _ h => h) (by kernel_rfl) ?zy235 (by assumption) ?zr235
  case zy235 => (intro w hSw; (try dsimp only at hSw); go_simp; try with_reducible rfl)
  simp only [Act.put, aput]
  refine wtk 28 ?zv236 32 rfl rfl (by kernel_rfl) (fun _ _ _ h => h) (by kernel_rfl) ?zy236 (by assumption) ?zr236
  case zy236 => (intro w hSw; (try dsimp only at hSw); go_simp; try with_reducible rfl)
  simp only [Act.put, aput]
  refine wtk 29 ?zv237 33 rfl rfl (by kernel_rfl) (fun _ _ _ h => h) (by kernel_rfl) ?zy237 (by assumption) ?zr237
  case zy237 => (intro w hSw; (try dsimp only at hSw); go_simp; try with_reducible rfl)
  simp only [Act.put, aput]
  refine wtk 30 ?zv238 34 rfl rfl (by kernel_rfl) (fun _ _ _ h => h) (by kernel_rfl) ?zy238 (by assumption) ?zr238
  case zy238 => (intro w hSw; (try dsimp only at hSw); go_simp; try with_reducible rfl)
  simp only [Act.put, aput]
  refine wtk 31 ?zv239 35 rfl rfl (by kernel_rfl) (fun _ _ _ h => h) (by kernel_rfl) ?zy239 (by assumption) ?zr239
  case zy239 => (intro w hSw; (try dsimp only at hSw); go_simp; try with_reducible rfl)
  simp only [Act.put, aput]
  refine wtk 32 ?zv240 36 rfl rfl (by kernel_rfl) (fun _ _ _ h => h) (by kernel_rfl) ?zy240 (by assumption) ?zr240
  case zy240 => (intro w hSw; (try dsimp only at hSw); go_simp; try with_reducible rfl)
  simp only [Act.put, aput]
  refine wtk 33 ?zv241 37 rfl rfl (by kernel_rfl) (fun _ _ _ h => h) (by kernel_rfl) ?zy241 (by assumption) ?zr241
  case zy241 => (intro w hSw; (try dsimp only at hSw); go_simp; try with_reducible rfl)
  simp only [Act.put, aput]
  refine wtk 34 ?zv242 38 rfl rfl (by kernel_rfl) (fun _ _ _ h => h) (by kernel_rfl) ?zy242 (by assumption) ?zr242
  case zy242 => (intro w hSw; (try dsimp only at hSw); go_simp; try with_reducible rfl)
  simp only [Act.put, aput]
  refine wtk 35 ?zv243 39 rfl rfl (by kernel_rfl) (fun _ _ _ h => h) (by kernel_rfl) ?zy243 (by assumption) ?zr243
  case zy243 => (intro w hSw; (try dsimp only at hSw); go_simp; try with_reducible rfl)
  simp only [Act.put, aput]
  refine wpAnyH_done (by kernel_rfl) ?_ _
  have HBE : Hid (Below w.heap.size w w2) := HB.out.trans ((HB1.out.mono HB.out.size).trans (HB2.out.mono (Nat.le_trans HB.out.size HB1.out.size)))
  have HKE := HK2
  go_wp2
  go_ret
  exact ⟨rfl, HBE.out⟩

set_option maxHeartbeats 8000000 in
set_option maxRecDepth 100000 in
theorem sfv_lensZ1 (p : Int) (A1 : Option Addr) (n1 c1 : Nat) (A2 : Option Addr) (n2 c2 : Nat) (w : World) (hb1 : n1 ≤ maxLen) (hb2 : n2 ≤ maxLen) (h0 : 1 ≤ p) (h1 : p < 997)   (hn : ¬ n1 = 0) :
    Calls Tryz.prog 21 #[feedV p 0 0 0 A1 n1 c1 A2 n2 c2] w fun e w' => e = .returned (.bool false) ∧ Below w.heap.size w w' := by
  unfold maxLen at hb1 hb2
  have hnb : ((n1 : Int) != 0) = true := by rw [bne_iff_ne]; omega
  obtain ⟨W, HW⟩ : ∃ W, Hid (w.alloc (.cells (feedC p 0 0 0 A1 n1 c1 A2 n2 c2) 56) = W) := ⟨_, rfl⟩
  have HK : Hid (Blk W w.heap.size 56 (feedC p 0 0 0 A1 n1 c1 A2 n2 c2)) := by rw [← HW.out]; exact Blk.new w _ _
  have HB : Hid (Below w.heap.size w W) := by rw [← HW.out]; exact (Below.refl _ w).alloc (Nat.le_refl _) _
  have hzW : w.heap.size < W.heap.size := HK.out.lt
  obtain ⟨k0, k1, k2, k3, k4, k5⟩ := feed_cells HK.out
  go_enter Tryz.func21, Tryz.ntmps21
  go_wp2_with fail
  rw [HW.out]
  refine wp_region_held_drew (S := (fun w' => w'.cell? ⟨w.heap.size, 0, none⟩ = some (.int .i64 p) ∧ w'.cell? ⟨w.heap.size, 1, none⟩ = some (.int .i64 0) ∧ w'.cell? ⟨w.heap.size, 2, none⟩ = some (.int .i64 0) ∧ w'.cell? ⟨w.heap.size, 3, none⟩ = some (.int .i64 0) ∧ w'.cell? ⟨w.heap.size, 4, none⟩ = some (.slice A1 n1 c1) ∧ w'.cell? ⟨w.heap.size, 5, none⟩ = some (.slice A2 n2 c2))) (by kernel_rfl) (feed_cells HK.out) (fun hHeld => ?_)
  refine wtk 0 ?zv244 4 rfl rfl (by kernel_rfl) (fun _ _ _ h => h) (by kernel_rfl) ?zy244 (by assumption) ?zr244
  case zy244 => (intro w hSw; (try dsimp only at hSw); go_simp; try with_reducible rfl)
  simp only [Act.put, aput]
  refine wtk 1 ?zv245 5 rfl rfl (by kernel_rfl) (fun _ _ _ h => h) (by kernel_rfl) ?zy245 (by assumption) ?zr245
  case zy245 => (intro w hSw; (try dsimp only at hSw); go_simp; try with_reducible rfl)
  simp only [Act.put, aput]
  refine wpAnyH_ready (rs := [2]) (by kernel_rfl) (by simp) (AllReadyH.cons rfl (fun K hK => ?_) AllReadyH.nil)
  go_simp
  go_at_call 50
  refine (skey_yes _ _ h0 h1).mono ?_
  rintro e w' ⟨rfl, rfl⟩
  refine hK.out _ _ (feed_cells HK.out) (fun hHeld => ?_)
  clear hK K
  (try simp only [Act.put, aput])
  refine wtk 3 ?zv246 7 rfl rfl (by kernel_rfl) (fun _ _ _ h => h) (by kernel_rfl) ?zy246 (by assumption) ?zr246
  case zy246 => (intro w hSw; (try dsimp only at hSw); go_simp; try with_reducible rfl)
  simp only [Act.put, aput]
  refine wtk 4 ?zv247 8 rfl rfl (by kernel_rfl) (fun _ _ _ h => h) (by kernel_rfl) ?zy247 (by assumption) ?zr247
  case zy247 => (intro w hSw; (try dsimp only at hSw); go_simp; try with_reducible rfl)
  simp only [Act.put, aput]
  refine wtk 5 ?zv248 9 rfl rfl (by kernel_rfl) (fun _ _ _ h => h) (by kernel_rfl) ?zy248 (by assumption) ?zr248
  case zy248 => (intro w hSw; (try dsimp only at hSw); go_simp; try with_reducible rfl)
  simp only [Act.put, aput]
  refine wtk 6 ?zv249 10 rfl rfl (by kernel_rfl) (fun _ _ _ h => h) (by kernel_rfl) ?zy249 (by assumption) ?zr249
  case zy249 => (intro w hSw; (try dsimp only at hSw); go_simp; try with_reducible rfl)
  simp only [Act.put, aput]
  refine wpAnyH_ready (rs := [7]) (by kernel_rfl) (by simp) (AllReadyH.cons rfl (fun K hK => ?_) AllReadyH.nil)
  go_simp
  go_at_call 54
  refine (empty_any _).mono ?_
  rintro e w1 ⟨rfl, hb1⟩
  have HB1 : Hid (Below W.heap.size W w1) := below_drew_l hb1
  have HK1 := Lib.hid (HK.out.below HB1.out hzW)
  clear hb1
  refine hK.out _ _ (feed_cells HK1.out) (fun hHeld => ?_)
  clear hK K
  (try simp only [Act.put, aput])
  refine wtk 8 ?zv250 12 rfl rfl (by kernel_rfl) (fun _ _ _ h => h) (by kernel_rfl) ?zy250 (by assumption) ?zr250
  case zy250 => (intro w hSw; (try dsimp only at hSw); go_simp; try with_reducible rfl)
  simp only [Act.put, aput]
  refine wtk 9 ?zv251 13 rfl rfl (by kernel_rfl) (fun _ _ _ h => h) (by kernel_rfl) ?zy251 (by assumption) ?zr251
  case zy251 => (intro w hSw; (try dsimp only at hSw); go_simp; try with_reducible rfl)
  simp only [Act.put, aput]
  refine wtu 10 14 rfl rfl (by kernel_rfl) (fun _ _ _ h => h) (by kernel_rfl) (by assumption) ?_
  simp only [Act.put, aput]
  refine wtu 11 15 rfl rfl (by kernel_rfl) (fun _ _ _ h => h) (by kernel_rfl) (by assumption) ?_
  simp only [Act.put, aput]
  refine wtu 12 16 rfl rfl (by kernel_rfl) (fun _ _ _ h => h) (by kernel_rfl) (by assumption) ?_
  simp only [Act.put, aput]
  refine wtu 13 17 rfl rfl (by kernel_rfl) (fun _ _ _ h => h) (by kernel_rfl) (by assumption) ?_
  simp only [Act.put, aput]
  refine wtu 14 18 rfl rfl (by kernel_rfl) (fun _ _ _ h => h) (by kernel_rfl) (by assumption) ?_
  simp only [Act.put, aput]
  refine wtu 15 19 rfl rfl (by kernel_rfl) (fun _ _ _ h => h) (by kernel_rfl) (by assumption) ?_
  simp only [Act.put, aput]
  refine wtk 16 ?zv252 20 rfl rfl (by kernel_rfl) (fun _ _ _ h => h) (by kernel_rfl) ?zy252 (by assumption) ?zr252
  case zy252 => (intro w hSw; (try dsimp only at hSw); go_simp; try with_reducible rfl)
  simp only [Act.put, aput]
  refine wtk 17 ?zv253 21 rfl rfl (by kernel_rfl) (fun _ _ _ h => h) (by kernel_rfl) ?zy253 (by assumption) ?zr253
  case zy253 => (intro w hSw; (try dsimp only at hSw); go_simp; try with_reducible rfl)
  simp only [Act.put, aput]
  refine wtk 18 ?zv254 22 rfl rfl (by kernel_rfl) (fun _ _ _ h => h) (by kernel_rfl) ?zy254 (by assumption) ?zr254
  case zy254 => (intro w hSw; (try dsimp only at hSw); go_simp; try with_reducible rfl)
  simp only [Act.put, aput]
  refine wtk 19 ?zv255 23 rfl rfl (by kernel_rfl) (fun _ _ _ h => h) (by kernel_rfl) ?zy255 (by assumption) ?zr255
  case zy255 => (intro w hSw; (try dsimp only at hSw); go_simp; try with_reducible rfl)
  simp only [Act.put, aput]
  refine wtk 20 ?zv256 24 rfl rfl (by kernel_rfl) (fun _ _ _ h => h) (by kernel_rfl) ?zy256 (by assumption) ?zr256
  case zy256 => (intro w hSw; (try dsimp only at hSw); go_simp; try with_reducible rfl)
  simp only [Act.put, aput]
  refine wtk 21 ?zv257 25 rfl rfl (by kernel_rfl) (fun _ _ _ h => h) (by kernel_rfl) ?zy257 (by assumption) ?zr257
  case zy257 => (intro w hSw; (try dsimp only at hSw); go_simp; try with_reducible rfl)
  simp only [Act.put, aput]
  refine wtk 22 ?zv258 26 rfl rfl (by kernel_rfl) (fun _ _ _ h => h) (by kernel_rfl) ?zy258 (by assumption) ?zr258
  case zy258 => (intro w hSw; (try dsimp only at hSw); go_simp; try with_reducible rfl)
  simp only [Act.put, aput]
  refine wtk 23 ?zv259 27 rfl rfl (by kernel_rfl) (fun _ _ _ h => h) (by kernel_rfl) ?zy259 (by assumption) ?zr259
  case zy259 => (intro w hSw; (try dsimp only at hSw); go_simp; try with_reducible rfl)
  simp only [Act.put, aput]
  refine wtk 24 ?zv260 28 rfl rfl (by kernel_rfl) (fun _ _ _ h => h) (by kernel_rfl) ?zy260 (by assumption) ?zr260
  case zy260 => (intro w hSw; (try dsimp only at hSw); go_simp; try with_reducible rfl)
  simp only [Act.put, aput]
  refine wtk 25 ?zv261 29 rfl rfl (by kernel_rfl) (fun _ _ _ h => h) (by kernel_rfl) ?zy261 (by assumption) ?zr261
  case zy261 => (intro w hSw; (try dsimp only at hSw); go_simp; try with_reducible rfl)
  simp only [Act.put, aput]
  refine wtk 26 ?zv262 30 rfl rfl (by kernel_rfl) (fun _ _ _ h => h) (by kernel_rfl) ?zy262 (by assumption) ?zr262
  case zy262 => (intro w hSw; (try dsimp only at hSw); go_simp; try with_reducible rfl)
  simp only [Act.put, aput]
  refine wtk 27 ?zv263 31 rfl rfl (by kernel_rfl) (fun _ _ _ h => h) (by kernel_rfl) ?zy263 (by assumption) ?zr263
  case zy263 => (intro w hSw; (try dsimp only at hSw); go_simp; try with_reducible rfl)
  simp only [Act.put, aput]
  refine wtu 28 32 rfl rfl (by kernel_rfl) (fun _ _ _ h => h) (by kernel_rfl) (by assumption) ?_
  simp only [Act.put, aput]
  refine wtu 29 33 rfl rfl (by kernel_rfl) (fun _ _ _ h => h) (by kernel_rfl) (by assumption) ?_
  simp only [Act.put, aput]
  refine wtu 30 34 rfl rfl (by kernel_rfl) (fun _ _ _ h => h) (by kernel_rfl) (by assumption) ?_
  simp only [Act.put, aput]
  refine wtu 31 35 rfl rfl (by kernel_rfl) (fun _ _ _ h => h) (by kernel_rfl) (by assumption) ?_
  simp only [Act.put, aput]
  refine wtu 32 36 rfl rfl (by kernel_rfl) (fun _ _ _ h => h) (by kernel_rfl) (by assumption) ?_
  simp only [Act.put, aput]
  refine wtu 33 37 rfl rfl (by kernel_rfl) (fun _ _ _ h => h) (by kernel_rfl) (by assumption) ?_
  simp only [Act.put, aput]
  refine wtu 34 38 rfl rfl (by kernel_rfl) (fun _ _ _ h => h) (by kernel_rfl) (by assumption) ?_
  simp only [Act.put, aput]
  refine wtk 35 ?zv264 39 rfl rfl (by kernel_rfl) (fun _ _ _ h => h) (by kernel_rfl) ?zy264 (by assumption) ?zr264
  case zy264 => (intro w hSw; (try dsimp only at hSw); go_simp; try with_reducible rfl)
  simp only [Act.put, aput]
  refine wpAnyH_done (by kernel_rfl) ?_ _
  have HBE : Hid (Below w.heap.size w w1) := HB.out.trans (HB1.out.mono HB.out.size)
  have HKE := HK1
  go_wp2
  go_ret
  exact ⟨rfl, HBE.out⟩

set_option maxHeartbeats 8000000 in
set_option maxRecDepth 100000 in
theorem sfv_lensZ2 (p : Int) (A1 : Option Addr) (c1 : Nat) (A2 : Option Addr) (n2 c2 : Nat) (w : World) (hb1 : 0 ≤ maxLen) (hb2 : n2 ≤ maxLen) (h0 : 1 ≤ p) (h1 : p < 997)   (hn : ¬ n2 = 0) :
    Calls Tryz.prog 21 #[feedV p 0 0 0 A1 0 c1 A2 n2 c2] w fun e w' => e = .returned (.bool false) ∧ Below w.heap.size w w' := by
  unfold maxLen at hb1 hb2
  have hnb : ((n2 : Int) != 0) = true := by rw [bne_iff_ne]; omega
  obtain ⟨W, HW⟩ : ∃ W, Hid (w.alloc (.cells (feedC p 0 0 0 A1 0 c1 A2 n2 c2) 56) = W) := ⟨_, rfl⟩
  have HK : Hid (Blk W w.heap.size 56 (feedC p 0 0 0 A1 0 c1 A2 n2 c2)) := by rw [← HW.out]; exact Blk.new w _ _
  have HB : Hid (Below w.heap.size w W) := by rw [← HW.out]; exact (Below.refl _ w).alloc (Nat.le_refl _) _
  have hzW : w.heap.size < W.heap.size := HK.out.lt
  obtain ⟨k0, k1, k2, k3, k4, k5⟩ := feed_cells HK.out
  go_enter Tryz.func21, Tryz.ntmps21
  go_wp2_with fail
  rw [HW.out]
  refine wp_region_held_drew (S := (fun w' => w'.cell? ⟨w.heap.size, 0, none⟩ = some (.int .i64 p) ∧ w'.cell? ⟨w.heap.size, 1, none⟩ = some (.int .i64 0) ∧ w'.cell? ⟨w.heap.size, 2, none⟩ = some (.int .i64 0) ∧ w'.cell? ⟨w.heap.size, 3, none⟩ = some (.int .i64 0) ∧ w'.cell? ⟨w.heap.size, 4, none⟩ = some (.slice A1 0 c1) ∧ w'.cell? ⟨w.heap.size, 5, none⟩ = some (.slice A2 n2 c2))) (by kernel_rfl) (feed_cells HK.out) (fun hHeld => ?_)
  refine wtk 0 ?zv265 4 rfl rfl (by kernel_rfl) (fun _ _ _ h => h) (by kernel_rfl) ?zy265 (by assumption) ?zr265
  case zy265 => (intro w hSw; (try dsimp only at hSw); go_simp; try with_reducible rfl)
  simp only [Act.put, aput]
  refine wtk 1 ?zv266 5 rfl rfl (by kernel_rfl) (fun _ _ _ h => h) (by kernel_rfl) ?zy266 (by assumption) ?zr266
  case zy266 => (intro w hSw; (try dsimp only at hSw); go_simp; try with_reducible rfl)
  simp only [Act.put, aput]
  refine wpAnyH_ready (rs := [2]) (by kernel_rfl) (by simp) (AllReadyH.cons rfl (fun K hK => ?_) AllReadyH.nil)
  go_simp
  go_at_call 50
  refine (skey_yes _ _ h0 h1).mono ?_
  rintro e w' ⟨rfl, rfl⟩
  refine hK.out _ _ (feed_cells HK.out) (fun hHeld => ?_)
  clear hK K
  (try simp only [Act.put, aput])
  refine wtk 3 ?zv267 7 rfl rfl (by kernel_rfl) (fun _ _ _ h => h) (by kernel_rfl) ?zy267 (by assumption) ?zr267
  case zy267 => (intro w hSw; (try dsimp only at hSw); go_simp; try with_reducible rfl)
  simp only [Act.put, aput]
  refine wtk 4 ?zv268 8 rfl rfl (by kernel_rfl) (fun _ _ _ h => h) (by kernel_rfl) ?zy268 (by assumption) ?zr268
  case zy268 => (intro w hSw; (try dsimp only at hSw); go_simp; try with_reducible rfl)
  simp only [Act.put, aput]
  refine wtk 5 ?zv269 9 rfl rfl (by kernel_rfl) (fun _ _ _ h => h) (by kernel_rfl) ?zy269 (by assumption) ?zr269
  case zy269 => (intro w hSw; (try dsimp only at hSw); go_simp; try with_reducible rfl)
  simp only [Act.put, aput]
  refine wtk 6 ?zv270 10 rfl rfl (by kernel_rfl) (fun _ _ _ h => h) (by kernel_rfl) ?zy270 (by assumption) ?zr270
  case zy270 => (intro w hSw; (try dsimp only at hSw); go_simp; try with_reducible rfl)
  simp only [Act.put, aput]
  refine wpAnyH_ready (rs := [7]) (by kernel_rfl) (by simp) (AllReadyH.cons rfl (fun K hK => ?_) AllReadyH.nil)
  go_simp
  go_at_call 54
  refine (empty_any _).mono ?_
  rintro e w1 ⟨rfl, hb1⟩
  have HB1 : Hid (Below W.heap.size W w1) := below_drew_l hb1
  have HK1 := Lib.hid (HK.out.below HB1.out hzW)
  clear hb1
  refine hK.out _ _ (feed_cells HK1.out) (fun hHeld => ?_)
  clear hK K
  (try simp only [Act.put, aput])
  refine wtk 8 ?zv271 12 rfl rfl (by kernel_rfl) (fun _ _ _ h => h) (by kernel_rfl) ?zy271 (by assumption) ?zr271
  case zy271 => (intro w hSw; (try dsimp only at hSw); go_simp; try with_reducible rfl)
  simp only [Act.put, aput]
  refine wtk 9 ?zv272 13 rfl rfl (by kernel_rfl) (fun _ _ _ h => h) (by kernel_rfl) ?zy272 (by assumption) ?zr272
  case zy272 => (intro w hSw; (try dsimp only at hSw); go_simp; try with_reducible rfl)
  simp only [Act.put, aput]
  refine wtu 10 14 rfl rfl (by kernel_rfl) (fun _ _ _ h => h) (by kernel_rfl) (by assumption) ?_
  simp only [Act.put, aput]
  refine wtu 11 15 rfl rfl (by kernel_rfl) (fun _ _ _ h => h) (by kernel_rfl) (by assumption) ?_
  simp only [Act.put, aput]
  refine wtu 12 16 rfl rfl (by kernel_rfl) (fun _ _ _ h => h) (by kernel_rfl) (by assumption) ?_
  simp only [Act.put, aput]
  refine wtu 13 17 rfl rfl (by kernel_rfl) (fun _ _ _ h => h) (by kernel_rfl) (by assumption) ?_
  simp only [Act.put, aput]
  refine wtu 14 18 rfl rfl (by kernel_rfl) (fun _ _ _ h => h) (by kernel_rfl) (by assumption) ?_
  simp only [Act.put, aput]
  refine wtu 15 19 rfl rfl (by kernel_rfl) (fun _ _ _ h => h) (by kernel_rfl) (by assumption) ?_
  simp only [Act.put, aput]
  refine wtk 16 ?zv273 20 rfl rfl (by kernel_rfl) (fun _ _ _ h => h) (by kernel_rfl) ?zy273 (by assumption) ?zr273
  case zy273 => (intro w hSw; (try dsimp only at hSw); go_simp; try with_reducible rfl)
  simp only [Act.put, aput]
  refine wtk 17 ?zv274 21 rfl rfl (by kernel_rfl) (fun _ _ _ h => h) (by kernel_rfl) ?zy274 (by assumption) ?zr274
  case zy274 => (intro w hSw; (try dsimp only at hSw); go_simp; try with_reducible rfl)
  simp only [Act.put, aput]
  refine wtk 18 ?zv275 22 rfl rfl (by kernel_rfl) (fun _ _ _ h => h) (by kernel_rfl) ?zy275 (by assumption) ?zr275
  case zy275 => (intro w hSw; (try dsimp only at hSw); go_simp; try with_reducible rfl)
  simp only [Act.put, aput]
  refine wtk 19 ?zv276 23 rfl rfl (by kernel_rfl) (fun _ _ _ h => h) (by kernel_rfl) ?zy276 (by assumption) ?zr276
  case zy276 => (intro w hSw; (try dsimp only at hSw); go_simp; try with_reducible rfl)
  simp only [Act.put, aput]
  refine wtk 20 ?zv277 24 rfl rfl (by kernel_rfl) (fun _ _ _ h => h) (by kernel_rfl) ?zy277 (by assumption) ?zr277
  case zy277 => (intro w hSw; (try dsimp only at hSw); go_simp; try with_reducible rfl)
  simp only [Act.put, aput]
  refine wtk 21 ?zv278 25 rfl rfl (by kernel_rfl) (fun _ _ _ h => h) (by kernel_rfl) ?zy278 (by assumption) ?zr278
  case zy278 => (intro w hSw; (try dsimp only at hSw); go_simp; try with_reducible rfl)
  simp only [Act.put, aput]
  refine wtk 22 ?zv279 26 rfl rfl (by kernel_rfl) (fun _ _ _ h => h) (by kernel_rfl) ?zy279 (by assumption) ?zr279
  case zy279 => (intro w hSw; (try dsimp only at hSw); go_simp; try with_reducible rfl)
  simp only [Act.put, aput]
  refine wtk 23 ?zv280 27 rfl rfl (by kernel_rfl) (fun _ _ _ h => h) (by kernel_rfl) ?zy280 (by assumption) ?zr280
  case zy280 => (intro w hSw; (try dsimp only at hSw); go_simp; try with_reducible rfl)
  simp only [Act.put, aput]
  refine wtk 24 ?zv281 28 rfl rfl (by kernel_rfl) (fun _ _ _ h => h) (by kernel_rfl) ?zy281 (by assumption) ?zr281
  case zy281 => (intro w hSw; (try dsimp only at hSw); go_simp; try with_reducible rfl)
  simp only [Act.put, aput]
  refine wtk 25 ?zv282 29 rfl rfl (by kernel_rfl) (fun _ _ _ h => h) (by kernel_rfl) ?zy282 (by assumption) ?zr282
  case zy282 => (intro w hSw; (try dsimp only at hSw); go_simp; try with_reducible rfl)
  simp only [Act.put, aput]
  refine wtk 26 ?zv283 30 rfl rfl (by kernel_rfl) (fun _ _ _ h => h) (by kernel_rfl) ?zy283 (by assumption) ?zr283
  case zy283 => (intro w hSw; (try dsimp only at hSw); go_simp; try with_reducible rfl)
  simp only [Act.put, aput]
  refine wtk 27 ?zv284 31 rfl rfl (by kernel_rfl) (fun _ _ _ h => h) (by kernel_rfl) ?zy284 (by assumption) ?zr284
  case zy284 => (intro w hSw; (try dsimp only at hSw); go_simp; try with_reducible rfl)
  simp only [Act.put, aput]
  refine wtk 28 ?zv285 32 rfl rfl (by kernel_rfl) (fun _ _ _ h => h) (by kernel_rfl) ?zy285 (by assumption) ?zr285
  case zy285 => (intro w hSw; (try dsimp only at hSw); go_simp; try with_reducible rfl)
  simp only [Act.put, aput]
  refine wtk 29 ?zv286 33 rfl rfl (by kernel_rfl) (fun _ _ _ h => h) (by kernel_rfl) ?zy286 (by assumption) ?zr286
  case zy286 => (intro w hSw; (try dsimp only at hSw); go_simp; try with_reducible rfl)
  simp only [Act.put, aput]
  refine wtk 30 ?zv287 34 rfl rfl (by kernel_rfl) (fun _ _ _ h => h) (by kernel_rfl) ?zy287 (by assumption) ?zr287
  case zy287 => (intro w hSw; (try dsimp only at hSw); go_simp; try with_reducible rfl)
  simp only [Act.put, aput]
  refine wtk 31 ?zv288 35 rfl rfl (by kernel_rfl) (fun _ _ _ h => h) (by kernel_rfl) ?zy288 (by assumption) ?zr288
  case zy288 => (intro w hSw; (try dsimp only at hSw); go_simp; try with_reducible rfl)
  simp only [Act.put, aput]
  refine wtk 32 ?zv289 36 rfl rfl (by kernel_rfl) (fun _ _ _ h => h) (by kernel_rfl) ?zy289 (by assumption) ?zr289
  case zy289 => (intro w hSw; (try dsimp only at hSw); go_simp; try with_reducible rfl)
  simp only [Act.put, aput]
  refine wtk 33 ?zv290 37 rfl rfl (by kernel_rfl) (fun _ _ _ h => h) (by kernel_rfl) ?zy290 (by assumption) ?zr290
  case zy290 => (intro w hSw; (try dsimp only at hSw); go_simp; try with_reducible rfl)
  simp only [Act.put, aput]
  refine wtk 34 ?zv291 38 rfl rfl (by kernel_rfl) (fun _ _ _ h => h) (by kernel_rfl) ?zy291 (by assumption) ?zr291
  case zy291 => (intro w hSw; (try dsimp only at hSw); go_simp; try with_reducible rfl)
  simp only [Act.put, aput]
  refine wtk 35 ?zv292 39 rfl rfl (by kernel_rfl) (fun _ _ _ h => h) (by kernel_rfl) ?zy292 (by assumption) ?zr292
  case zy292 => (intro w hSw; (try dsimp only at hSw); go_simp; try with_reducible rfl)
  simp only [Act.put, aput]
  refine wpAnyH_done (by kernel_rfl) ?_ _
  have HBE : Hid (Below w.heap.size w w1) := HB.out.trans (HB1.out.mono HB.out.size)
  have HKE := HK1
  go_wp2
  go_ret
  exact ⟨rfl, HBE.out⟩

end Go.Proofs.YtkmebilhbjcfpaaGreat

namespace Go.Proofs.YtkmebilhbjcfpaaGreat
open Go.RowKit
set_option linter.unusedVariables false

set_option maxHeartbeats 8000000 in
set_option maxRecDepth 100000 in
theorem sfv_noneB (p d s : Int) (A1 : Option Addr) (c1 : Nat) (A2 : Option Addr) (c2 : Nat) (w : World) (h0 : 1 ≤ p) (h1 : p < 997) (hx : ¬ d = 0) (hS : signedB p 0 d s = true) :
    Calls Tryz.prog 21 #[feedV p 0 d s A1 0 c1 A2 0 c2] w fun e w' => e = .returned (.bool true) ∧ Below w.heap.size w w' := by
  have HS := Lib.hid hS
  clear hS
  obtain ⟨W, HW⟩ : ∃ W, Hid (w.alloc (.cells (feedC p 0 d s A1 0 c1 A2 0 c2) 56) = W) := ⟨_, rfl⟩
  have HK : Hid (Blk W w.heap.size 56 (feedC p 0 d s A1 0 c1 A2 0 c2)) := by rw [← HW.out]; exact Blk.new w _ _
  have HB : Hid (Below w.heap.size w W) := by rw [← HW.out]; exact (Below.refl _ w).alloc (Nat.le_refl _) _
  have hzW : w.heap.size < W.heap.size := HK.out.lt
  obtain ⟨k0, k1, k2, k3, k4, k5⟩ := feed_cells HK.out
  go_enter Tryz.func21, Tryz.ntmps21
  go_wp2_with fail
  rw [HW.out]
  refine wp_region_held_drew (S := (fun w' => w'.cell? ⟨w.heap.size, 0, none⟩ = some (.int .i64 p) ∧ w'.cell? ⟨w.heap.size, 1, none⟩ = some (.int .i64 0) ∧ w'.cell? ⟨w.heap.size, 2, none⟩ = some (.int .i64 d) ∧ w'.cell? ⟨w.heap.size, 3, none⟩ = some (.int .i64 s) ∧ w'.cell? ⟨w.heap.size, 4, none⟩ = some (.slice A1 0 c1) ∧ w'.cell? ⟨w.heap.size, 5, none⟩ = some (.slice A2 0 c2))) (by kernel_rfl) (feed_cells HK.out) (fun hHeld => ?_)
  refine wtk 0 ?zv302 4 rfl rfl (by kernel_rfl) (fun _ _ _ h => h) (by kernel_rfl) ?zy302 (by assumption) ?zr302
  case zy302 => (intro w hSw; (try dsimp only at hSw); go_simp; try with_reducible rfl)
  simp only [Act.put, aput]
  refine wtk 1 ?zv303 5 rfl rfl (by kernel_rfl) (fun _ _ _ h => h) (by kernel_rfl) ?zy303 (by assumption) ?zr303
  case zy303 => (intro w hSw; (try dsimp only at hSw); go_simp; try with_reducible rfl)
  simp only [Act.put, aput]
  refine wpAnyH_ready (rs := [2]) (by kernel_rfl) (by simp) (AllReadyH.cons rfl (fun K hK => ?_) AllReadyH.nil)
  go_simp
  go_at_call 50
  refine (skey_yes _ _ h0 h1).mono ?_
  rintro e w' ⟨rfl, rfl⟩
  refine hK.out _ _ (feed_cells HK.out) (fun hHeld => ?_)
  clear hK K
  (try simp only [Act.put, aput])
  refine wtk 3 ?zv304 7 rfl rfl (by kernel_rfl) (fun _ _ _ h => h) (by kernel_rfl) ?zy304 (by assumption) ?zr304
  case zy304 => (intro w hSw; (try dsimp only at hSw); go_simp; try with_reducible rfl)
  simp only [Act.put, aput]
  refine wtk 4 ?zv305 8 rfl rfl (by kernel_rfl) (fun _ _ _ h => h) (by kernel_rfl) ?zy305 (by assumption) ?zr305
  case zy305 => (intro w hSw; (try dsimp only at hSw); go_simp; try with_reducible rfl)
  simp only [Act.put, aput]
  refine wtk 5 ?zv306 9 rfl rfl (by kernel_rfl) (fun _ _ _ h => h) (by kernel_rfl) ?zy306 (by assumption) ?zr306
  case zy306 => (intro w hSw; (try dsimp only at hSw); go_simp; try with_reducible rfl)
  simp only [Act.put, aput]
  refine wtk 6 ?zv307 10 rfl rfl (by kernel_rfl) (fun _ _ _ h => h) (by kernel_rfl) ?zy307 (by assumption) ?zr307
  case zy307 => (intro w hSw; (try dsimp only at hSw); go_simp; try with_reducible rfl)
  simp only [Act.put, aput]
  refine wpAnyH_ready (rs := [7]) (by kernel_rfl) (by simp) (AllReadyH.cons rfl (fun K hK => ?_) AllReadyH.nil)
  go_simp
  go_at_call 54
  refine (empty_any _).mono ?_
  rintro e w1 ⟨rfl, hb1⟩
  have HB1 : Hid (Below W.heap.size W w1) := below_drew_l hb1
  have HK1 := Lib.hid (HK.out.below HB1.out hzW)
  clear hb1
  refine hK.out _ _ (feed_cells HK1.out) (fun hHeld => ?_)
  clear hK K
  (try simp only [Act.put, aput])
  refine wtk 8 ?zv308 12 rfl rfl (by kernel_rfl) (fun _ _ _ h => h) (by kernel_rfl) ?zy308 (by assumption) ?zr308
  case zy308 => (intro w hSw; (try dsimp only at hSw); go_simp; try with_reducible rfl)
  simp only [Act.put, aput]
  refine wtk 9 ?zv309 13 rfl rfl (by kernel_rfl) (fun _ _ _ h => h) (by kernel_rfl) ?zy309 (by assumption) ?zr309
  case zy309 => (intro w hSw; (try dsimp only at hSw); go_simp; try with_reducible rfl)
  simp only [Act.put, aput]
  refine wtk 10 ?zv310 14 rfl rfl (by kernel_rfl) (fun _ _ _ h => h) (by kernel_rfl) ?zy310 (by assumption) ?zr310
  case zy310 => (intro w hSw; (try dsimp only at hSw); go_simp; try with_reducible rfl)
  simp only [Act.put, aput]
  refine wtk 11 ?zv311 15 rfl rfl (by kernel_rfl) (fun _ _ _ h => h) (by kernel_rfl) ?zy311 (by assumption) ?zr311
  case zy311 => (intro w hSw; (try dsimp only at hSw); go_simp; try with_reducible rfl)
  simp only [Act.put, aput]
  refine wtk 12 ?zv312 16 rfl rfl (by kernel_rfl) (fun _ _ _ h => h) (by kernel_rfl) ?zy312 (by assumption) ?zr312
  case zy312 => (intro w hSw; (try dsimp only at hSw); go_simp; try with_reducible rfl)
  simp only [Act.put, aput]
  refine wtk 13 ?zv313 17 rfl rfl (by kernel_rfl) (fun _ _ _ h => h) (by kernel_rfl) ?zy313 (by assumption) ?zr313
  case zy313 => (intro w hSw; (try dsimp only at hSw); go_simp; try with_reducible rfl)
  simp only [Act.put, aput]
  refine wpAnyH_ready (rs := [14]) (by kernel_rfl) (by simp) (AllReadyH.cons rfl (fun K hK => ?_) AllReadyH.nil)
  go_simp
  go_at_call 55
  refine (scheck_any p 0 d s _).mono ?_
  rintro e w2 ⟨rfl, hb2⟩
  rw [HS.out]
  have HB2 := Lib.hid hb2
  have HK2 := Lib.hid (HK1.out.below HB2.out (Nat.lt_of_lt_of_le hzW HB1.out.size))
  clear hb2
  refine hK.out _ _ (feed_cells HK2.out) (fun hHeld => ?_)
  clear hK K
  (try simp only [Act.put, aput])
  refine wtk 15 ?zv314 19 rfl rfl (by kernel_rfl) (fun _ _ _ h => h) (by kernel_rfl) ?zy314 (by assumption) ?zr314
  case zy314 => (intro w hSw; (try dsimp only at hSw); go_simp; try with_reducible rfl)
  simp only [Act.put, aput]
  refine wtk 16 ?zv315 20 rfl rfl (by kernel_rfl) (fun _ _ _ h => h) (by kernel_rfl) ?zy315 (by assumption) ?zr315
  case zy315 => (intro w hSw; (try dsimp only at hSw); go_simp; try with_reducible rfl)
  simp only [Act.put, aput]
  refine wtk 17 ?zv316 21 rfl rfl (by kernel_rfl) (fun _ _ _ h => h) (by kernel_rfl) ?zy316 (by assumption) ?zr316
  case zy316 => (intro w hSw; (try dsimp only at hSw); go_simp; try with_reducible rfl)
  simp only [Act.put, aput]
  refine wtk 18 ?zv317 22 rfl rfl (by kernel_rfl) (fun _ _ _ h => h) (by kernel_rfl) ?zy317 (by assumption) ?zr317
  case zy317 => (intro w hSw; (try dsimp only at hSw); go_simp; try with_reducible rfl)
  simp only [Act.put, aput]
  refine wtk 19 ?zv318 23 rfl rfl (by kernel_rfl) (fun _ _ _ h => h) (by kernel_rfl) ?zy318 (by assumption) ?zr318
  case zy318 => (intro w hSw; (try dsimp only at hSw); go_simp; try with_reducible rfl)
  simp only [Act.put, aput]
  refine wtk 20 ?zv319 24 rfl rfl (by kernel_rfl) (fun _ _ _ h => h) (by kernel_rfl) ?zy319 (by assumption) ?zr319
  case zy319 => (intro w hSw; (try dsimp only at hSw); go_simp; try with_reducible rfl)
  simp only [Act.put, aput]
  refine wtk 21 ?zv320 25 rfl rfl (by kernel_rfl) (fun _ _ _ h => h) (by kernel_rfl) ?zy320 (by assumption) ?zr320
  case zy320 => (intro w hSw; (try dsimp only at hSw); go_simp; try with_reducible rfl)
  simp only [Act.put, aput]
  refine wtk 22 ?zv321 26 rfl rfl (by kernel_rfl) (fun _ _ _ h => h) (by kernel_rfl) ?zy321 (by assumption) ?zr321
  case zy321 => (intro w hSw; (try dsimp only at hSw); go_simp; try with_reducible rfl)
  simp only [Act.put, aput]
  refine wtk 23 ?zv322 27 rfl rfl (by kernel_rfl) (fun _ _ _ h => h) (by kernel_rfl) ?zy322 (by assumption) ?zr322
  case zy322 => (intro w hSw; (try dsimp only at hSw); go_simp; try with_reducible rfl)
  simp only [Act.put, aput]
  refine wtk 24 ?zv323 28 rfl rfl (by kernel_rfl) (fun _ _ _ h => h) (by kernel_rfl) ?zy323 (by assumption) ?zr323
  case zy323 => (intro w hSw; (try dsimp only at hSw); go_simp; try with_reducible rfl)
  simp only [Act.put, aput]
  refine wtk 25 ?zv324 29 rfl rfl (by kernel_rfl) (fun _ _ _ h => h) (by kernel_rfl) ?zy324 (by assumption) ?zr324
  case zy324 => (intro w hSw; (try dsimp only at hSw); go_simp; try with_reducible rfl)
  simp only [Act.put, aput]
  refine wtk 26 ?zv325 30 rfl rfl (by kernel_rfl) (fun _ _ _ h => h) (by kernel_rfl) ?zy325 (by assumption) ?zr325
  case zy325 => (intro w hSw; (try dsimp only at hSw); go_simp; try with_reducible rfl)
  simp only [Act.put, aput]
  refine wtk 27 ?zv326 31 rfl rfl (by kernel_rfl) (fun _ _ _ h => h) (by kernel_rfl) ?zy326 (by assumption) ?zr326
  case zy326 => (intro w hSw; (try dsimp only at hSw); go_simp; try with_reducible rfl)
  simp only [Act.put, aput]
  refine wtk 28 ?zv327 32 rfl rfl (by kernel_rfl) (fun _ _ _ h => h) (by kernel_rfl) ?zy327 (by assumption) ?zr327
  case zy327 => (intro w hSw; (try dsimp only at hSw); go_simp; try with_reducible rfl)
  simp only [Act.put, aput]
  refine wtk 29 ?zv328 33 rfl rfl (by kernel_rfl) (fun _ _ _ h => h) (by kernel_rfl) ?zy328 (by assumption) ?zr328
  case zy328 => (intro w hSw; (try dsimp only at hSw); go_simp; try with_reducible rfl)
  simp only [Act.put, aput]
  refine wtk 30 ?zv329 34 rfl rfl (by kernel_rfl) (fun _ _ _ h => h) (by kernel_rfl) ?zy329 (by assumption) ?zr329
  case zy329 => (intro w hSw; (try dsimp only at hSw); go_simp; try with_reducible rfl)
  simp only [Act.put, aput]
  refine wtk 31 ?zv330 35 rfl rfl (by kernel_rfl) (fun _ _ _ h => h) (by kernel_rfl) ?zy330 (by assumption) ?zr330
  case zy330 => (intro w hSw; (try dsimp only at hSw); go_simp; try with_reducible rfl)
  simp only [Act.put, aput]
  refine wtk 32 ?zv331 36 rfl rfl (by kernel_rfl) (fun _ _ _ h => h) (by kernel_rfl) ?zy331 (by assumption) ?zr331
  case zy331 => (intro w hSw; (try dsimp only at hSw); go_simp; try with_reducible rfl)
  simp only [Act.put, aput]
  refine wtk 33 ?zv332 37 rfl rfl (by kernel_rfl) (fun _ _ _ h => h) (by kernel_rfl) ?zy332 (by assumption) ?zr332
  case zy332 => (intro w hSw; (try dsimp only at hSw); go_simp; try with_reducible rfl)
  simp only [Act.put, aput]
  refine wtk 34 ?zv333 38 rfl rfl (by kernel_rfl) (fun _ _ _ h => h) (by kernel_rfl) ?zy333 (by assumption) ?zr333
  case zy333 => (intro w hSw; (try dsimp only at hSw); go_simp; try with_reducible rfl)
  simp only [Act.put, aput]
  refine wtk 35 ?zv334 39 rfl rfl (by kernel_rfl) (fun _ _ _ h => h) (by kernel_rfl) ?zy334 (by assumption) ?zr334
  case zy334 => (intro w hSw; (try dsimp only at hSw); go_simp; try with_reducible rfl)
  simp only [Act.put, aput]
  refine wpAnyH_done (by kernel_rfl) ?_ _
  have HBE : Hid (Below w.heap.size w w2) := HB.out.trans ((HB1.out.mono HB.out.size).trans (HB2.out.mono (Nat.le_trans HB.out.size HB1.out.size)))
  have HKE := HK2
  obtain ⟨j0, j1, j2, j3, j4, j5⟩ := feed_cells HKE.out
  clear k0 k1 k2 k3 k4 k5 hHeld
  go_wp2
  go_loop [3] (fun i => i = .int .i64 0) (fun _ => 0)
  case atStart => rfl
  case round =>
    subst hrel
    go_wp2_with fail
    refine wp_region_held_drew (S := (fun w' => w'.cell? ⟨w.heap.size, 0, none⟩ = some (.int .i64 p) ∧ w'.cell? ⟨w.heap.size, 1, none⟩ = some (.int .i64 0) ∧ w'.cell? ⟨w.heap.size, 2, none⟩ = some (.int .i64 d) ∧ w'.cell? ⟨w.heap.size, 3, none⟩ = some (.int .i64 s) ∧ w'.cell? ⟨w.heap.size, 4, none⟩ = some (.slice A1 0 c1) ∧ w'.cell? ⟨w.heap.size, 5, none⟩ = some (.slice A2 0 c2))) (by kernel_rfl) (feed_cells HKE.out) (fun hHeld => ?_)
    refine wtk 0 ?zv293 70 rfl rfl (by kernel_rfl) (fun _ _ _ h => h) (by kernel_rfl) ?zy293 (by assumption) ?zr293
    case zy293 => (intro w hSw; (try dsimp only at hSw); go_simp; try with_reducible rfl)
    simp only [Act.put, aput]
    refine wtk 1 ?zv294 71 rfl rfl (by kernel_rfl) (fun _ _ _ h => h) (by kernel_rfl) ?zy294 (by assumption) ?zr294
    case zy294 => (intro w hSw; (try dsimp only at hSw); go_simp; try with_reducible rfl)
    simp only [Act.put, aput]
    refine wtk 2 ?zv295 72 rfl rfl (by kernel_rfl) (fun _ _ _ h => h) (by kernel_rfl) ?zy295 (by assumption) ?zr295
    case zy295 => (intro w hSw; (try dsimp only at hSw); go_simp; try with_reducible rfl)
    simp only [Act.put, aput]
    refine wtk 3 ?zv296 73 rfl rfl (by kernel_rfl) (fun _ _ _ h => h) (by kernel_rfl) ?zy296 (by assumption) ?zr296
    case zy296 => (intro w hSw; (try dsimp only at hSw); go_simp; try with_reducible rfl)
    simp only [Act.put, aput]
    refine wtk 4 ?zv297 74 rfl rfl (by kernel_rfl) (fun _ _ _ h => h) (by kernel_rfl) ?zy297 (by assumption) ?zr297
    case zy297 => (intro w hSw; (try dsimp only at hSw); go_simp; try with_reducible rfl)
    simp only [Act.put, aput]
    refine wtu 5 75 rfl rfl (by kernel_rfl) (fun _ _ _ h => h) (by kernel_rfl) (by assumption) ?_
    simp only [Act.put, aput]
    refine wtu 6 76 rfl rfl (by kernel_rfl) (fun _ _ _ h => h) (by kernel_rfl) (by assumption) ?_
    simp only [Act.put, aput]
    refine wtu 7 77 rfl rfl (by kernel_rfl) (fun _ _ _ h => h) (by kernel_rfl) (by assumption) ?_
    simp only [Act.put, aput]
    refine wtk 8 ?zv298 78 rfl rfl (by kernel_rfl) (fun _ _ _ h => h) (by kernel_rfl) ?zy298 (by assumption) ?zr298
    case zy298 => (intro w hSw; (try dsimp only at hSw); go_simp; try with_reducible rfl)
    simp only [Act.put, aput]
    refine wtk 9 ?zv299 79 rfl rfl (by kernel_rfl) (fun _ _ _ h => h) (by kernel_rfl) ?zy299 (by assumption) ?zr299
    case zy299 => (intro w hSw; (try dsimp only at hSw); go_simp; try with_reducible rfl)
    simp only [Act.put, aput]
    refine wtu 10 80 rfl rfl (by kernel_rfl) (fun _ _ _ h => h) (by kernel_rfl) (by assumption) ?_
    simp only [Act.put, aput]
    refine wtu 11 81 rfl rfl (by kernel_rfl) (fun _ _ _ h => h) (by kernel_rfl) (by assumption) ?_
    simp only [Act.put, aput]
    refine wtu 12 82 rfl rfl (by kernel_rfl) (fun _ _ _ h => h) (by kernel_rfl) (by assumption) ?_
    simp only [Act.put, aput]
    refine wtu 13 83 rfl rfl (by kernel_rfl) (fun _ _ _ h => h) (by kernel_rfl) (by assumption) ?_
    simp only [Act.put, aput]
    refine wtu 14 84 rfl rfl (by kernel_rfl) (fun _ _ _ h => h) (by kernel_rfl) (by assumption) ?_
    simp only [Act.put, aput]
    refine wtu 15 85 rfl rfl (by kernel_rfl) (fun _ _ _ h => h) (by kernel_rfl) (by assumption) ?_
    simp only [Act.put, aput]
    refine wtu 16 86 rfl rfl (by kernel_rfl) (fun _ _ _ h => h) (by kernel_rfl) (by assumption) ?_
    simp only [Act.put, aput]
    refine wtu 17 87 rfl rfl (by kernel_rfl) (fun _ _ _ h => h) (by kernel_rfl) (by assumption) ?_
    simp only [Act.put, aput]
    refine wtk 18 ?zv300 88 rfl rfl (by kernel_rfl) (fun _ _ _ h => h) (by kernel_rfl) ?zy300 (by assumption) ?zr300
    case zy300 => (intro w hSw; (try dsimp only at hSw); go_simp; try with_reducible rfl)
    simp only [Act.put, aput]
    refine wtk 19 ?zv301 2 rfl rfl (by kernel_rfl) (fun _ _ _ h => h) (by kernel_rfl) ?zy301 (by assumption) ?zr301
    case zy301 => (intro w hSw; (try dsimp only at hSw); go_simp; try with_reducible rfl)
    simp only [Act.put, aput]
    refine wpAnyH_done (by kernel_rfl) ?_ _
    go_wp2
    go_ret
    exact ⟨rfl, below_drew HBE.out⟩

set_option maxHeartbeats 8000000 in
set_option maxRecDepth 100000 in
theorem sfv_noneC (p s : Int) (A1 : Option Addr) (c1 : Nat) (A2 : Option Addr) (c2 : Nat) (w : World) (h0 : 1 ≤ p) (h1 : p < 997) (hx : ¬ s = 0) (hS : signedB p 0 0 s = true) :
    Calls Tryz.prog 21 #[feedV p 0 0 s A1 0 c1 A2 0 c2] w fun e w' => e = .returned (.bool true) ∧ Below w.heap.size w w' := by
  have HS := Lib.hid hS
  clear hS
  obtain ⟨W, HW⟩ : ∃ W, Hid (w.alloc (.cells (feedC p 0 0 s A1 0 c1 A2 0 c2) 56) = W) := ⟨_, rfl⟩
  have HK : Hid (Blk W w.heap.size 56 (feedC p 0 0 s A1 0 c1 A2 0 c2)) := by rw [← HW.out]; exact Blk.new w _ _
  have HB : Hid (Below w.heap.size w W) := by rw [← HW.out]; exact (Below.refl _ w).alloc (Nat.le_refl _) _
  have hzW : w.heap.size < W.heap.size := HK.out.lt
  obtain ⟨k0, k1, k2, k3, k4, k5⟩ := feed_cells HK.out
  go_enter Tryz.func21, Tryz.ntmps21
  go_wp2_with fail
  rw [HW.out]
  refine wp_region_held_drew (S := (fun w' => w'.cell? ⟨w.heap.size, 0, none⟩ = some (.int .i64 p) ∧ w'.cell? ⟨w.heap.size, 1, none⟩ = some (.int .i64 0) ∧ w'.cell? ⟨w.heap.size, 2, none⟩ = some (.int .i64 0) ∧ w'.cell? ⟨w.heap.size, 3, none⟩ = some (.int .i64 s) ∧ w'.cell? ⟨w.heap.size, 4, none⟩ = some (.slice A1 0 c1) ∧ w'.cell? ⟨w.heap.size, 5, none⟩ = some (.slice A2 0 c2))) (by kernel_rfl) (feed_cells HK.out) (fun hHeld => ?_)
  refine wtk 0 ?zv344 4 rfl rfl (by kernel_rfl) (fun _ _ _ h => h) (by kernel_rfl) ?zy344 (by assumption) ?zr344
  case zy344 => (intro w hSw; (try dsimp only at hSw); go_simp; try with_reducible rfl)
  simp only [Act.put, aput]
  refine wtk 1 ?zv345 5 rfl rfl (by kernel_rfl) (fun _ _ _ h => h) (by kernel_rfl) ?zy345 (by assumption) ?zr345
  case zy345 => (intro w hSw; (try dsimp only at hSw); go_simp; try with_reducible rfl)
  simp only [Act.put, aput]
  refine wpAnyH_ready (rs := [2]) (by kernel_rfl) (by simp) (AllReadyH.cons rfl (fun K hK => ?_) AllReadyH.nil)
  go_simp
  go_at_call 50
  refine (skey_yes _ _ h0 h1).mono ?_
  rintro e w' ⟨rfl, rfl⟩
  refine hK.out _ _ (feed_cells HK.out) (fun hHeld => ?_)
  clear hK K
  (try simp only [Act.put, aput])
  refine wtk 3 ?zv346 7 rfl rfl (by kernel_rfl) (fun _ _ _ h => h) (by kernel_rfl) ?zy346 (by assumption) ?zr346
  case zy346 => (intro w hSw; (try dsimp only at hSw); go_simp; try with_reducible rfl)
  simp only [Act.put, aput]
  refine wtk 4 ?zv347 8 rfl rfl (by kernel_rfl) (fun _ _ _ h => h) (by kernel_rfl) ?zy347 (by assumption) ?zr347
  case zy347 => (intro w hSw; (try dsimp only at hSw); go_simp; try with_reducible rfl)
  simp only [Act.put, aput]
  refine wtk 5 ?zv348 9 rfl rfl (by kernel_rfl) (fun _ _ _ h => h) (by kernel_rfl) ?zy348 (by assumption) ?zr348
  case zy348 => (intro w hSw; (try dsimp only at hSw); go_simp; try with_reducible rfl)
  simp only [Act.put, aput]
  refine wtk 6 ?zv349 10 rfl rfl (by kernel_rfl) (fun _ _ _ h => h) (by kernel_rfl) ?zy349 (by assumption) ?zr349
  case zy349 => (intro w hSw; (try dsimp only at hSw); go_simp; try with_reducible rfl)
  simp only [Act.put, aput]
  refine wpAnyH_ready (rs := [7]) (by kernel_rfl) (by simp) (AllReadyH.cons rfl (fun K hK => ?_) AllReadyH.nil)
  go_simp
  go_at_call 54
  refine (empty_any _).mono ?_
  rintro e w1 ⟨rfl, hb1⟩
  have HB1 : Hid (Below W.heap.size W w1) := below_drew_l hb1
  have HK1 := Lib.hid (HK.out.below HB1.out hzW)
  clear hb1
  refine hK.out _ _ (feed_cells HK1.out) (fun hHeld => ?_)
  clear hK K
  (try simp only [Act.put, aput])
  refine wtk 8 ?zv350 12 rfl rfl (by kernel_rfl) (fun _ _ _ h => h) (by kernel_rfl) ?zy350 (by assumption) ?zr350
  case zy350 => (intro w hSw; (try dsimp only at hSw); go_simp; try with_reducible rfl)
  simp only [Act.put, aput]
  refine wtk 9 ?zv351 13 rfl rfl (by kernel_rfl) (fun _ _ _ h => h) (by kernel_rfl) ?zy351 (by assumption) ?zr351
  case zy351 => (intro w hSw; (try dsimp only at hSw); go_simp; try with_reducible rfl)
  simp only [Act.put, aput]
  refine wtk 10 ?zv352 14 rfl rfl (by kernel_rfl) (fun _ _ _ h => h) (by kernel_rfl) ?zy352 (by assumption) ?zr352
  case zy352 => (intro w hSw; (try dsimp only at hSw); go_simp; try with_reducible rfl)
  simp only [Act.put, aput]
  refine wtk 11 ?zv353 15 rfl rfl (by kernel_rfl) (fun _ _ _ h => h) (by kernel_rfl) ?zy353 (by assumption) ?zr353
  case zy353 => (intro w hSw; (try dsimp only at hSw); go_simp; try with_reducible rfl)
  simp only [Act.put, aput]
  refine wtk 12 ?zv354 16 rfl rfl (by kernel_rfl) (fun _ _ _ h => h) (by kernel_rfl) ?zy354 (by assumption) ?zr354
  case zy354 => (intro w hSw; (try dsimp only at hSw); go_simp; try with_reducible rfl)
  simp only [Act.put, aput]
  refine wtk 13 ?zv355 17 rfl rfl (by kernel_rfl) (fun _ _ _ h => h) (by kernel_rfl) ?zy355 (by assumption) ?zr355
  case zy355 => (intro w hSw; (try dsimp only at hSw); go_simp; try with_reducible rfl)
  simp only [Act.put, aput]
  refine wpAnyH_ready (rs := [14]) (by kernel_rfl) (by simp) (AllReadyH.cons rfl (fun K hK => ?_) AllReadyH.nil)
  go_simp
  go_at_call 55
  refine (scheck_any p 0 0 s _).mono ?_
  rintro e w2 ⟨rfl, hb2⟩
  rw [HS.out]
  have HB2 := Lib.hid hb2
  have HK2 := Lib.hid (HK1.out.below HB2.out (Nat.lt_of_lt_of_le hzW HB1.out.size))
  clear hb2
  refine hK.out _ _ (feed_cells HK2.out) (fun hHeld => ?_)
  clear hK K
  (try simp only [Act.put, aput])
  refine wtk 15 ?zv356 19 rfl rfl (by kernel_rfl) (fun _ _ _ h => h) (by kernel_rfl) ?zy356 (by assumption) ?zr356
  case zy356 => (intro w hSw; (try dsimp only at hSw); go_simp; try with_reducible rfl)
  simp only [Act.put, aput]
  refine wtk 16 ?zv357 20 rfl rfl (by kernel_rfl) (fun _ _ _ h => h) (by kernel_rfl) ?zy357 (by assumption) ?zr357
  case zy357 => (intro w hSw; (try dsimp only at hSw); go_simp; try with_reducible rfl)
  simp only [Act.put, aput]
  refine wtk 17 ?zv358 21 rfl rfl (by kernel_rfl) (fun _ _ _ h => h) (by kernel_rfl) ?zy358 (by assumption) ?zr358
  case zy358 => (intro w hSw; (try dsimp only at hSw); go_simp; try with_reducible rfl)
  simp only [Act.put, aput]
  refine wtk 18 ?zv359 22 rfl rfl (by kernel_rfl) (fun _ _ _ h => h) (by kernel_rfl) ?zy359 (by assumption) ?zr359
  case zy359 => (intro w hSw; (try dsimp only at hSw); go_simp; try with_reducible rfl)
  simp only [Act.put, aput]
  refine wtk 19 ?zv360 23 rfl rfl (by kernel_rfl) (fun _ _ _ h => h) (by kernel_rfl) ?zy360 (by assumption) ?zr360
  case zy360 => (intro w hSw; (try dsimp only at hSw); go_simp; try with_reducible rfl)
  simp only [Act.put, aput]
  refine wtk 20 ?zv361 24 rfl rfl (by kernel_rfl) (fun _ _ _ h => h) (by kernel_rfl) ?zy361 (by assumption) ?zr361
  case zy361 => (intro w hSw; (try dsimp only at hSw); go_simp; try with_reducible rfl)
  simp only [Act.put, aput]
  refine wtk 21 ?zv362 25 rfl rfl (by kernel_rfl) (fun _ _ _ h => h) (by kernel_rfl) ?zy362 (by assumption) ?zr362
  case zy362 => (intro w hSw; (try dsimp only at hSw); go_simp; try with_reducible rfl)
  simp only [Act.put, aput]
  refine wtk 22 ?zv363 26 rfl rfl (by kernel_rfl) (fun _ _ _ h => h) (by kernel_rfl) ?zy363 (by assumption) ?zr363
  case zy363 => (intro w hSw; (try dsimp only at hSw); go_simp; try with_reducible rfl)
  simp only [Act.put, aput]
  refine wtk 23 ?zv364 27 rfl rfl (by kernel_rfl) (fun _ _ _ h => h) (by kernel_rfl) ?zy364 (by assumption) ?zr364
  case zy364 => (intro w hSw; (try dsimp only at hSw); go_simp; try with_reducible rfl)
  simp only [Act.put, aput]
  refine wtk 24 ?zv365 28 rfl rfl (by kernel_rfl) (fun _ _ _ h => h) (by kernel_rfl) ?zy365 (by assumption) ?zr365
  case zy365 => (intro w hSw; (try dsimp only at hSw); go_simp; try with_reducible rfl)
  simp only [Act.put, aput]
  refine wtk 25 ?zv366 29 rfl rfl (by kernel_rfl) (fun _ _ _ h => h) (by kernel_rfl) ?zy366 (by assumption) ?zr366
  case zy366 => (intro w hSw; (try dsimp only at hSw); go_simp; try with_reducible rfl)
  simp only [Act.put, aput]
  refine wtk 26 ?zv367 30 rfl rfl (by kernel_rfl) (fun _ _ _ h => h) (by kernel_rfl) ?zy367 (by assumption) ?zr367
  case zy367 => (intro w hSw; (try dsimp only at hSw); go_simp; try with_reducible rfl)
  simp only [Act.put, aput]
  refine wtk 27 ?zv368 31 rfl rfl (by kernel_rfl) (fun _ _ _ h => h) (by kernel_rfl) ?zy368 (by assumption) ?zr368
  case zy368 => (intro w hSw; (try dsimp only at hSw); go_simp; try with_reducible rfl)
  simp only [Act.put, aput]
  refine wtk 28 ?zv369 32 rfl rfl (by kernel_rfl) (fun _ _ _ h => h) (by kernel_rfl) ?zy369 (by assumption) ?zr369
  case zy369 => (intro w hSw; (try dsimp only at hSw); go_simp; try with_reducible rfl)
  simp only [Act.put, aput]
  refine wtk 29 ?zv370 33 rfl rfl (by kernel_rfl) (fun _ _ _ h => h) (by kernel_rfl) ?zy370 (by assumption) ?zr370
  case zy370 => (intro w hSw; (try dsimp only at hSw); go_simp; try with_reducible rfl)
  simp only [Act.put, aput]
  refine wtk 30 ?zv371 34 rfl rfl (by kernel_rfl) (fun _ _ _ h => h) (by kernel_rfl) ?zy371 (by assumption) ?zr371
  case zy371 => (intro w hSw; (try dsimp only at hSw); go_simp; try with_reducible rfl)
  simp only [Act.put, aput]
  refine wtk 31 ?zv372 35 rfl rfl (by kernel_rfl) (fun _ _ _ h => h) (by kernel_rfl) ?zy372 (by assumption) ?zr372
  case zy372 => (intro w hSw; (try dsimp only at hSw); go_simp; try with_reducible rfl)
  simp only [Act.put, aput]
  refine wtk 32 ?zv373 36 rfl rfl (by kernel_rfl) (fun _ _ _ h => h) (by kernel_rfl) ?zy373 (by assumption) ?zr373
  case zy373 => (intro w hSw; (try dsimp only at hSw); go_simp; try with_reducible rfl)
  simp only [Act.put, aput]
  refine wtk 33 ?zv374 37 rfl rfl (by kernel_rfl) (fun _ _ _ h => h) (by kernel_rfl) ?zy374 (by assumption) ?zr374
  case zy374 => (intro w hSw; (try dsimp only at hSw); go_simp; try with_reducible rfl)
  simp only [Act.put, aput]
  refine wtk 34 ?zv375 38 rfl rfl (by kernel_rfl) (fun _ _ _ h => h) (by kernel_rfl) ?zy375 (by assumption) ?zr375
  case zy375 => (intro w hSw; (try dsimp only at hSw); go_simp; try with_reducible rfl)
  simp only [Act.put, aput]
  refine wtk 35 ?zv376 39 rfl rfl (by kernel_rfl) (fun _ _ _ h => h) (by kernel_rfl) ?zy376 (by assumption) ?zr376
  case zy376 => (intro w hSw; (try dsimp only at hSw); go_simp; try with_reducible rfl)
  simp only [Act.put, aput]
  refine wpAnyH_done (by kernel_rfl) ?_ _
  have HBE : Hid (Below w.heap.size w w2) := HB.out.trans ((HB1.out.mono HB.out.size).trans (HB2.out.mono (Nat.le_trans HB.out.size HB1.out.size)))
  have HKE := HK2
  obtain ⟨j0, j1, j2, j3, j4, j5⟩ := feed_cells HKE.out
  clear k0 k1 k2 k3 k4 k5 hHeld
  go_wp2
  go_loop [3] (fun i => i = .int .i64 0) (fun _ => 0)
  case atStart => rfl
  case round =>
    subst hrel
    go_wp2_with fail
    refine wp_region_held_drew (S := (fun w' => w'.cell? ⟨w.heap.size, 0, none⟩ = some (.int .i64 p) ∧ w'.cell? ⟨w.heap.size, 1, none⟩ = some (.int .i64 0) ∧ w'.cell? ⟨w.heap.size, 2, none⟩ = some (.int .i64 0) ∧ w'.cell? ⟨w.heap.size, 3, none⟩ = some (.int .i64 s) ∧ w'.cell? ⟨w.heap.size, 4, none⟩ = some (.slice A1 0 c1) ∧ w'.cell? ⟨w.heap.size, 5, none⟩ = some (.slice A2 0 c2))) (by kernel_rfl) (feed_cells HKE.out) (fun hHeld => ?_)
    refine wtk 0 ?zv335 70 rfl rfl (by kernel_rfl) (fun _ _ _ h => h) (by kernel_rfl) ?zy335 (by assumption) ?zr335
    case zy335 => (intro w hSw; (try dsimp only at hSw); go_simp; try with_reducible rfl)
    simp only [Act.put, aput]
    refine wtk 1 ?zv336 71 rfl rfl (by kernel_rfl) (fun _ _ _ h => h) (by kernel_rfl) ?zy336 (by assumption) ?zr336
    case zy336 => (intro w hSw; (try dsimp only at hSw); go_simp; try with_reducible rfl)
    simp only [Act.put, aput]
    refine wtk 2 ?zv337 72 rfl rfl (by kernel_rfl) (fun _ _ _ h => h) (by kernel_rfl) ?zy337 (by assumption) ?zr337
    case zy337 => (intro w hSw; (try dsimp only at hSw); go_simp; try with_reducible rfl)
    simp only [Act.put, aput]
    refine wtk 3 ?zv338 73 rfl rfl (by kernel_rfl) (fun _ _ _ h => h) (by kernel_rfl) ?zy338 (by assumption) ?zr338
    case zy338 => (intro w hSw; (try dsimp only at hSw); go_simp; try with_reducible rfl)
    simp only [Act.put, aput]
    refine wtk 4 ?zv339 74 rfl rfl (by kernel_rfl) (fun _ _ _ h => h) (by kernel_rfl) ?zy339 (by assumption) ?zr339
    case zy339 => (intro w hSw; (try dsimp only at hSw); go_simp; try with_reducible rfl)
    simp only [Act.put, aput]
    refine wtu 5 75 rfl rfl (by kernel_rfl) (fun _ _ _ h => h) (by kernel_rfl) (by assumption) ?_
    simp only [Act.put, aput]
    refine wtu 6 76 rfl rfl (by kernel_rfl) (fun _ _ _ h => h) (by kernel_rfl) (by assumption) ?_
    simp only [Act.put, aput]
    refine wtu 7 77 rfl rfl (by kernel_rfl) (fun _ _ _ h => h) (by kernel_rfl) (by assumption) ?_
    simp only [Act.put, aput]
    refine wtk 8 ?zv340 78 rfl rfl (by kernel_rfl) (fun _ _ _ h => h) (by kernel_rfl) ?zy340 (by assumption) ?zr340
    case zy340 => (intro w hSw; (try dsimp only at hSw); go_simp; try with_reducible rfl)
    simp only [Act.put, aput]
    refine wtk 9 ?zv341 79 rfl rfl (by kernel_rfl) (fun _ _ _ h => h) (by kernel_rfl) ?zy341 (by assumption) ?zr341
    case zy341 => (intro w hSw; (try dsimp only at hSw); go_simp; try with_reducible rfl)
    simp only [Act.put, aput]
    refine wtu 10 80 rfl rfl (by kernel_rfl) (fun _ _ _ h => h) (by kernel_rfl) (by assumption) ?_
    simp only [Act.put, aput]
    refine wtu 11 81 rfl rfl (by kernel_rfl) (fun _ _ _ h => h) (by kernel_rfl) (by assumption) ?_
    simp only [Act.put, aput]
    refine wtu 12 82 rfl rfl (by kernel_rfl) (fun _ _ _ h => h) (by kernel_rfl) (by assumption) ?_
    simp only [Act.put, aput]
    refine wtu 13 83 rfl rfl (by kernel_rfl) (fun _ _ _ h => h) (by kernel_rfl) (by assumption) ?_
    simp only [Act.put, aput]
    refine wtu 14 84 rfl rfl (by kernel_rfl) (fun _ _ _ h => h) (by kernel_rfl) (by assumption) ?_
    simp only [Act.put, aput]
    refine wtu 15 85 rfl rfl (by kernel_rfl) (fun _ _ _ h => h) (by kernel_rfl) (by assumption) ?_
    simp only [Act.put, aput]
    refine wtu 16 86 rfl rfl (by kernel_rfl) (fun _ _ _ h => h) (by kernel_rfl) (by assumption) ?_
    simp only [Act.put, aput]
    refine wtu 17 87 rfl rfl (by kernel_rfl) (fun _ _ _ h => h) (by kernel_rfl) (by assumption) ?_
    simp only [Act.put, aput]
    refine wtk 18 ?zv342 88 rfl rfl (by kernel_rfl) (fun _ _ _ h => h) (by kernel_rfl) ?zy342 (by assumption) ?zr342
    case zy342 => (intro w hSw; (try dsimp only at hSw); go_simp; try with_reducible rfl)
    simp only [Act.put, aput]
    refine wtk 19 ?zv343 2 rfl rfl (by kernel_rfl) (fun _ _ _ h => h) (by kernel_rfl) ?zy343 (by assumption) ?zr343
    case zy343 => (intro w hSw; (try dsimp only at hSw); go_simp; try with_reducible rfl)
    simp only [Act.put, aput]
    refine wpAnyH_done (by kernel_rfl) ?_ _
    go_wp2
    go_ret
    exact ⟨rfl, below_drew HBE.out⟩

set_option maxHeartbeats 8000000 in
set_option maxRecDepth 100000 in
theorem sfv_noneZ (p : Int) (A1 : Option Addr) (c1 : Nat) (A2 : Option Addr) (c2 : Nat) (w : World) (h0 : 1 ≤ p) (h1 : p < 997)   :
    Calls Tryz.prog 21 #[feedV p 0 0 0 A1 0 c1 A2 0 c2] w fun e w' => e = .returned (.bool true) ∧ Below w.heap.size w w' := by
  obtain ⟨W, HW⟩ : ∃ W, Hid (w.alloc (.cells (feedC p 0 0 0 A1 0 c1 A2 0 c2) 56) = W) := ⟨_, rfl⟩
  have HK : Hid (Blk W w.heap.size 56 (feedC p 0 0 0 A1 0 c1 A2 0 c2)) := by rw [← HW.out]; exact Blk.new w _ _
  have HB : Hid (Below w.heap.size w W) := by rw [← HW.out]; exact (Below.refl _ w).alloc (Nat.le_refl _) _
  have hzW : w.heap.size < W.heap.size := HK.out.lt
  obtain ⟨k0, k1, k2, k3, k4, k5⟩ := feed_cells HK.out
  go_enter Tryz.func21, Tryz.ntmps21
  go_wp2_with fail
  rw [HW.out]
  refine wp_region_held_drew (S := (fun w' => w'.cell? ⟨w.heap.size, 0, none⟩ = some (.int .i64 p) ∧ w'.cell? ⟨w.heap.size, 1, none⟩ = some (.int .i64 0) ∧ w'.cell? ⟨w.heap.size, 2, none⟩ = some (.int .i64 0) ∧ w'.cell? ⟨w.heap.size, 3, none⟩ = some (.int .i64 0) ∧ w'.cell? ⟨w.heap.size, 4, none⟩ = some (.slice A1 0 c1) ∧ w'.cell? ⟨w.heap.size, 5, none⟩ = some (.slice A2 0 c2))) (by kernel_rfl) (feed_cells HK.out) (fun hHeld => ?_)
  refine wtk 0 ?zv386 4 rfl rfl (by kernel_rfl) (fun _ _ _ h => h) (by kernel_rfl) ?zy386 (by assumption) ?zr386
  case zy386 => (intro w hSw; (try dsimp only at hSw); go_simp; try with_reducible rfl)
  simp only [Act.put, aput]
  refine wtk 1 ?zv387 5 rfl rfl (by kernel_rfl) (fun _ _ _ h => h) (by kernel_rfl) ?zy387 (by assumption) ?zr387
  case zy387 => (intro w hSw; (try dsimp only at hSw); go_simp; try with_reducible rfl)
  simp only [Act.put, aput]
  refine wpAnyH_ready (rs := [2]) (by kernel_rfl) (by simp) (AllReadyH.cons rfl (fun K hK => ?_) AllReadyH.nil)
  go_simp
  go_at_call 50
  refine (skey_yes _ _ h0 h1).mono ?_
  rintro e w' ⟨rfl, rfl⟩
  refine hK.out _ _ (feed_cells HK.out) (fun hHeld => ?_)
  clear hK K
  (try simp only [Act.put, aput])
  refine wtk 3 ?zv388 7 rfl rfl (by kernel_rfl) (fun _ _ _ h => h) (by kernel_rfl) ?zy388 (by assumption) ?zr388
  case zy388 => (intro w hSw; (try dsimp only at hSw); go_simp; try with_reducible rfl)
  simp only [Act.put, aput]
  refine wtk 4 ?zv389 8 rfl rfl (by kernel_rfl) (fun _ _ _ h => h) (by kernel_rfl) ?zy389 (by assumption) ?zr389
  case zy389 => (intro w hSw; (try dsimp only at hSw); go_simp; try with_reducible rfl)
  simp only [Act.put, aput]
  refine wtk 5 ?zv390 9 rfl rfl (by kernel_rfl) (fun _ _ _ h => h) (by kernel_rfl) ?zy390 (by assumption) ?zr390
  case zy390 => (intro w hSw; (try dsimp only at hSw); go_simp; try with_reducible rfl)
  simp only [Act.put, aput]
  refine wtk 6 ?zv391 10 rfl rfl (by kernel_rfl) (fun _ _ _ h => h) (by kernel_rfl) ?zy391 (by assumption) ?zr391
  case zy391 => (intro w hSw; (try dsimp only at hSw); go_simp; try with_reducible rfl)
  simp only [Act.put, aput]
  refine wpAnyH_ready (rs := [7]) (by kernel_rfl) (by simp) (AllReadyH.cons rfl (fun K hK => ?_) AllReadyH.nil)
  go_simp
  go_at_call 54
  refine (empty_any _).mono ?_
  rintro e w1 ⟨rfl, hb1⟩
  have HB1 : Hid (Below W.heap.size W w1) := below_drew_l hb1
  have HK1 := Lib.hid (HK.out.below HB1.out hzW)
  clear hb1
  refine hK.out _ _ (feed_cells HK1.out) (fun hHeld => ?_)
  clear hK K
  (try simp only [Act.put, aput])
  refine wtk 8 ?zv392 12 rfl rfl (by kernel_rfl) (fun _ _ _ h => h) (by kernel_rfl) ?zy392 (by assumption) ?zr392
  case zy392 => (intro w hSw; (try dsimp only at hSw); go_simp; try with_reducible rfl)
  simp only [Act.put, aput]
  refine wtk 9 ?zv393 13 rfl rfl (by kernel_rfl) (fun _ _ _ h => h) (by kernel_rfl) ?zy393 (by assumption) ?zr393
  case zy393 => (intro w hSw; (try dsimp only at hSw); go_simp; try with_reducible rfl)
  simp only [Act.put, aput]
  refine wtu 10 14 rfl rfl (by kernel_rfl) (fun _ _ _ h => h) (by kernel_rfl) (by assumption) ?_
  simp only [Act.put, aput]
  refine wtu 11 15 rfl rfl (by kernel_rfl) (fun _ _ _ h => h) (by kernel_rfl) (by assumption) ?_
  simp only [Act.put, aput]
  refine wtu 12 16 rfl rfl (by kernel_rfl) (fun _ _ _ h => h) (by kernel_rfl) (by assumption) ?_
  simp only [Act.put, aput]
  refine wtu 13 17 rfl rfl (by kernel_rfl) (fun _ _ _ h => h) (by kernel_rfl) (by assumption) ?_
  simp only [Act.put, aput]
  refine wtu 14 18 rfl rfl (by kernel_rfl) (fun _ _ _ h => h) (by kernel_rfl) (by assumption) ?_
  simp only [Act.put, aput]
  refine wtu 15 19 rfl rfl (by kernel_rfl) (fun _ _ _ h => h) (by kernel_rfl) (by assumption) ?_
  simp only [Act.put, aput]
  refine wtk 16 ?zv394 20 rfl rfl (by kernel_rfl) (fun _ _ _ h => h) (by kernel_rfl) ?zy394 (by assumption) ?zr394
  case zy394 => (intro w hSw; (try dsimp only at hSw); go_simp; try with_reducible rfl)
  simp only [Act.put, aput]
  refine wtk 17 ?zv395 21 rfl rfl (by kernel_rfl) (fun _ _ _ h => h) (by kernel_rfl) ?zy395 (by assumption) ?zr395
  case zy395 => (intro w hSw; (try dsimp only at hSw); go_simp; try with_reducible rfl)
  simp only [Act.put, aput]
  refine wtk 18 ?zv396 22 rfl rfl (by kernel_rfl) (fun _ _ _ h => h) (by kernel_rfl) ?zy396 (by assumption) ?zr396
  case zy396 => (intro w hSw; (try dsimp only at hSw); go_simp; try with_reducible rfl)
  simp only [Act.put, aput]
  refine wtk 19 ?zv397 23 rfl rfl (by kernel_rfl) (fun _ _ _ h => h) (by kernel_rfl) ?zy397 (by assumption) ?zr397
  case zy397 => (intro w hSw; (try dsimp only at hSw); go_simp; try with_reducible rfl)
  simp only [Act.put, aput]
  refine wtk 20 ?zv398 24 rfl rfl (by kernel_rfl) (fun _ _ _ h => h) (by kernel_rfl) ?zy398 (by assumption) ?zr398
  case zy398 => (intro w hSw; (try dsimp only at hSw); go_simp; try with_reducible rfl)
  simp only [Act.put, aput]
  refine wtk 21 ?zv399 25 rfl rfl (by kernel_rfl) (fun _ _ _ h => h) (by kernel_rfl) ?zy399 (by assumption) ?zr399
  case zy399 => (intro w hSw; (try dsimp only at hSw); go_simp; try with_reducible rfl)
  simp only [Act.put, aput]
  refine wtk 22 ?zv400 26 rfl rfl (by kernel_rfl) (fun _ _ _ h => h) (by kernel_rfl) ?zy400 (by assumption) ?zr400
  case zy400 => (intro w hSw; (try dsimp only at hSw); go_simp; try with_reducible rfl)
  simp only [Act.put, aput]
  refine wtk 23 ?zv401 27 rfl rfl (by kernel_rfl) (fun _ _ _ h => h) (by kernel_rfl) ?zy401 (by assumption) ?zr401
  case zy401 => (intro w hSw; (try dsimp only at hSw); go_simp; try with_reducible rfl)
  simp only [Act.put, aput]
  refine wtk 24 ?zv402 28 rfl rfl (by kernel_rfl) (fun _ _ _ h => h) (by kernel_rfl) ?zy402 (by assumption) ?zr402
  case zy402 => (intro w hSw; (try dsimp only at hSw); go_simp; try with_reducible rfl)
  simp only [Act.put, aput]
  refine wtk 25 ?zv403 29 rfl rfl (by kernel_rfl) (fun _ _ _ h => h) (by kernel_rfl) ?zy403 (by assumption) ?zr403
  case zy403 => (intro w hSw; (try dsimp only at hSw); go_simp; try with_reducible rfl)
  simp only [Act.put, aput]
  refine wtk 26 ?zv404 30 rfl rfl (by kernel_rfl) (fun _ _ _ h => h) (by kernel_rfl) ?zy404 (by assumption) ?zr404
  case zy404 => (intro w hSw; (try dsimp only at hSw); go_simp; try with_reducible rfl)
  simp only [Act.put, aput]
  refine wtk 27 ?zv405 31 rfl rfl (by kernel_rfl) (fun _ _ _ h => h) (by kernel_rfl) ?zy405 (by assumption) ?zr405
  case zy405 => (intro w hSw; (try dsimp only at hSw); go_simp; try with_reducible rfl)
  simp only [Act.put, aput]
  refine wtk 28 ?zv406 32 rfl rfl (by kernel_rfl) (fun _ _ _ h => h) (by kernel_rfl) ?zy406 (by assumption) ?zr406
  case zy406 => (intro w hSw; (try dsimp only at hSw); go_simp; try with_reducible rfl)
  simp only [Act.put, aput]
  refine wtk 29 ?zv407 33 rfl rfl (by kernel_rfl) (fun _ _ _ h => h) (by kernel_rfl) ?zy407 (by assumption) ?zr407
  case zy407 => (intro w hSw; (try dsimp only at hSw); go_simp; try with_reducible rfl)
  simp only [Act.put, aput]
  refine wtk 30 ?zv408 34 rfl rfl (by kernel_rfl) (fun _ _ _ h => h) (by kernel_rfl) ?zy408 (by assumption) ?zr408
  case zy408 => (intro w hSw; (try dsimp only at hSw); go_simp; try with_reducible rfl)
  simp only [Act.put, aput]
  refine wtk 31 ?zv409 35 rfl rfl (by kernel_rfl) (fun _ _ _ h => h) (by kernel_rfl) ?zy409 (by assumption) ?zr409
  case zy409 => (intro w hSw; (try dsimp only at hSw); go_simp; try with_reducible rfl)
  simp only [Act.put, aput]
  refine wtk 32 ?zv410 36 rfl rfl (by kernel_rfl) (fun _ _ _ h => h) (by kernel_rfl) ?zy410 (by assumption) ?zr410
  case zy410 => (intro w hSw; (try dsimp only at hSw); go_simp; try with_reducible rfl)
  simp only [Act.put, aput]
  refine wtk 33 ?zv411 37 rfl rfl (by kernel_rfl) (fun _ _ _ h => h) (by kernel_rfl) ?zy411 (by assumption) ?zr411
  case zy411 => (intro w hSw; (try dsimp only at hSw); go_simp; try with_reducible rfl)
  simp only [Act.put, aput]
  refine wtk 34 ?zv412 38 rfl rfl (by kernel_rfl) (fun _ _ _ h => h) (by kernel_rfl) ?zy412 (by assumption) ?zr412
  case zy412 => (intro w hSw; (try dsimp only at hSw); go_simp; try with_reducible rfl)
  simp only [Act.put, aput]
  refine wtk 35 ?zv413 39 rfl rfl (by kernel_rfl) (fun _ _ _ h => h) (by kernel_rfl) ?zy413 (by assumption) ?zr413
  case zy413 => (intro w hSw; (try dsimp only at hSw); go_simp; try with_reducible rfl)
  simp only [Act.put, aput]
  refine wpAnyH_done (by kernel_rfl) ?_ _
  have HBE : Hid (Below w.heap.size w w1) := HB.out.trans (HB1.out.mono HB.out.size)
  have HKE := HK1
  obtain ⟨j0, j1, j2, j3, j4, j5⟩ := feed_cells HKE.out
  clear k0 k1 k2 k3 k4 k5 hHeld
  go_wp2
  go_loop [3] (fun i => i = .int .i64 0) (fun _ => 0)
  case atStart => rfl
  case round =>
    subst hrel
    go_wp2_with fail
    refine wp_region_held_drew (S := (fun w' => w'.cell? ⟨w.heap.size, 0, none⟩ = some (.int .i64 p) ∧ w'.cell? ⟨w.heap.size, 1, none⟩ = some (.int .i64 0) ∧ w'.cell? ⟨w.heap.size, 2, none⟩ = some (.int .i64 0) ∧ w'.cell? ⟨w.heap.size, 3, none⟩ = some (.int .i64 0) ∧ w'.cell? ⟨w.heap.size, 4, none⟩ = some (.slice A1 0 c1) ∧ w'.cell? ⟨w.heap.size, 5, none⟩ = some (.slice A2 0 c2))) (by kernel_rfl) (feed_cells HKE.out) (fun hHeld => ?_)
    refine wtk 0 ?zv377 70 rfl rfl (by kernel_rfl) (fun _ _ _ h => h) (by kernel_rfl) ?zy377 (by assumption) ?zr377
    case zy377 => (intro w hSw; (try dsimp only at hSw); go_simp; try with_reducible rfl)
    simp only [Act.put, aput]
    refine wtk 1 ?zv378 71 rfl rfl (by kernel_rfl) (fun _ _ _ h => h) (by kernel_rfl) ?zy378 (by assumption) ?zr378
    case zy378 => (intro w hSw; (try dsimp only at hSw); go_simp; try with_reducible rfl)
    simp only [Act.put, aput]
    refine wtk 2 ?zv379 72 rfl rfl (by kernel_rfl) (fun _ _ _ h => h) (by kernel_rfl) ?zy379 (by assumption) ?zr379
    case zy379 => (intro w hSw; (try dsimp only at hSw); go_simp; try with_reducible rfl)
    simp only [Act.put, aput]
    refine wtk 3 ?zv380 73 rfl rfl (by kernel_rfl) (fun _ _ _ h => h) (by kernel_rfl) ?zy380 (by assumption) ?zr380
    case zy380 => (intro w hSw; (try dsimp only at hSw); go_simp; try with_reducible rfl)
    simp only [Act.put, aput]
    refine wtk 4 ?zv381 74 rfl rfl (by kernel_rfl) (fun _ _ _ h => h) (by kernel_rfl) ?zy381 (by assumption) ?zr381
    case zy381 => (intro w hSw; (try dsimp only at hSw); go_simp; try with_reducible rfl)
    simp only [Act.put, aput]
    refine wtu 5 75 rfl rfl (by kernel_rfl) (fun _ _ _ h => h) (by kernel_rfl) (by assumption) ?_
    simp only [Act.put, aput]
    refine wtu 6 76 rfl rfl (by kernel_rfl) (fun _ _ _ h => h) (by kernel_rfl) (by assumption) ?_
    simp only [Act.put, aput]
    refine wtu 7 77 rfl rfl (by kernel_rfl) (fun _ _ _ h => h) (by kernel_rfl) (by assumption) ?_
    simp only [Act.put, aput]
    refine wtk 8 ?zv382 78 rfl rfl (by kernel_rfl) (fun _ _ _ h => h) (by kernel_rfl) ?zy382 (by assumption) ?zr382
    case zy382 => (intro w hSw; (try dsimp only at hSw); go_simp; try with_reducible rfl)
    simp only [Act.put, aput]
    refine wtk 9 ?zv383 79 rfl rfl (by kernel_rfl) (fun _ _ _ h => h) (by kernel_rfl) ?zy383 (by assumption) ?zr383
    case zy383 => (intro w hSw; (try dsimp only at hSw); go_simp; try with_reducible rfl)
    simp only [Act.put, aput]
    refine wtu 10 80 rfl rfl (by kernel_rfl) (fun _ _ _ h => h) (by kernel_rfl) (by assumption) ?_
    simp only [Act.put, aput]
    refine wtu 11 81 rfl rfl (by kernel_rfl) (fun _ _ _ h => h) (by kernel_rfl) (by assumption) ?_
    simp only [Act.put, aput]
    refine wtu 12 82 rfl rfl (by kernel_rfl) (fun _ _ _ h => h) (by kernel_rfl) (by assumption) ?_
    simp only [Act.put, aput]
    refine wtu 13 83 rfl rfl (by kernel_rfl) (fun _ _ _ h => h) (by kernel_rfl) (by assumption) ?_
    simp only [Act.put, aput]
    refine wtu 14 84 rfl rfl (by kernel_rfl) (fun _ _ _ h => h) (by kernel_rfl) (by assumption) ?_
    simp only [Act.put, aput]
    refine wtu 15 85 rfl rfl (by kernel_rfl) (fun _ _ _ h => h) (by kernel_rfl) (by assumption) ?_
    simp only [Act.put, aput]
    refine wtu 16 86 rfl rfl (by kernel_rfl) (fun _ _ _ h => h) (by kernel_rfl) (by assumption) ?_
    simp only [Act.put, aput]
    refine wtu 17 87 rfl rfl (by kernel_rfl) (fun _ _ _ h => h) (by kernel_rfl) (by assumption) ?_
    simp only [Act.put, aput]
    refine wtk 18 ?zv384 88 rfl rfl (by kernel_rfl) (fun _ _ _ h => h) (by kernel_rfl) ?zy384 (by assumption) ?zr384
    case zy384 => (intro w hSw; (try dsimp only at hSw); go_simp; try with_reducible rfl)
    simp only [Act.put, aput]
    refine wtk 19 ?zv385 2 rfl rfl (by kernel_rfl) (fun _ _ _ h => h) (by kernel_rfl) ?zy385 (by assumption) ?zr385
    case zy385 => (intro w hSw; (try dsimp only at hSw); go_simp; try with_reducible rfl)
    simp only [Act.put, aput]
    refine wpAnyH_done (by kernel_rfl) ?_ _
    go_wp2
    go_ret
    exact ⟨rfl, below_drew HBE.out⟩

end Go.Proofs.YtkmebilhbjcfpaaGreat
