/- Cases of the model of FeedValid: it changes nothing that was there. Condition: the feed lies in memory. -/
import Derived.Test.YtkmebilhbjcfpaaGreatBaseA
import Derived.Test.YtkmebilhbjcfpaaGreatSFeedWhole
namespace Go.Proofs.YtkmebilhbjcfpaaGreat
open Go.RowKit
set_option linter.unusedVariables false

/-- The model of TreeDigest at a row of the call's own that is not empty. -/
theorem stdig_own {w : World} {base : Nat} {X : Option Addr} {c n : Nat} {zs : List Int} {u : Int} (h : OwnInts w base X c zs) (hl : zs.length = n) (hn : ¬ n = 0) (hu : digestOr zs = u) :
    Calls Tryz.prog 56 #[.slice X n c] w fun e w' => e = .returned (.int .i64 u) ∧ Below w.heap.size w w' := by
  obtain ⟨g, c', hv, _, _⟩ := World.ownsRow.form h (by omega)
  injection hv with hA _ _
  subst hA
  have := sdigest_any zs g 0 c w h.ints h.le.1 h.le.2
  rw [hl, hu] at this
  exact this

set_option maxHeartbeats 8000000 in
set_option maxRecDepth 100000 in
theorem sfv_body (p d s : Int) (A1 : Option Addr) (c1 : Nat) (A2 : Option Addr) (c2 : Nat) (bs : List ByteArray) (hs : List Bool) (w : World) (hF : FeedAt w w.heap.size A1 A2 bs hs) (h0 : 1 ≤ p) (h1 : p < 997) (hx : ¬ bs.length = 0) (h16 : bs.length ≤ 16) (hS : signedB p (bs.length : Int) d s = true) (hl : hs.length = bs.length) :
    Calls Tryz.prog 21 #[feedV p (bs.length : Int) d s A1 bs.length c1 A2 hs.length c2] w fun e w' => e = .returned (.bool (okB ⟨p, bs.length, d, s, bs, hs⟩)) ∧ Below w.heap.size w w' := by
  have HF := Lib.hid hF
  have HS0 := Lib.hid hS
  have HL0 := Lib.hid hl
  have C2 : Hid (∀ W : World, Below w.heap.size w W → Calls Tryz.prog 22 #[feedV p (bs.length : Int) d s A1 bs.length c1 A2 hs.length c2] W fun e w' => e = .returned (.bool (noneF hs)) ∧ Below W.heap.size W w') := fun W hW =>
    swhole_any p bs.length d s A1 bs.length c1 A2 c2 hs W (HF.out.belowS hW).bits HF.out.lh
  have C3 : Hid (∀ W : World, Below w.heap.size w W → Short bs → Calls Tryz.prog 57 #[.slice A1 bs.length c1] W (RetInts W (leafL bs))) := fun W hW hSh =>
    sleaves_any A1 c1 bs W (HF.out.belowS hW).strs hSh (by omega)
  have HLL : Hid ((leafL bs).length = bs.length) := leafL_length bs
  have HWH : Hid (wholeB hs = noneF hs) := by show _ = _; rw [wholeB_eq, decide_eq_true (by rw [hl]; omega)]; simp
  rw [hl] at C2 ⊢
  obtain ⟨n, HN⟩ : ∃ n, Hid (bs.length = n) := ⟨_, rfl⟩
  have HNH : Hid (hs.length = n) := by show _ = _; rw [hl]; exact HN.out
  rw [HN.out] at C2 C3 HLL hS h16 hx ⊢
  obtain ⟨u, HU⟩ : ∃ u, Hid (digestOr (leafL bs) = u) := ⟨_, rfl⟩
  have HS := Lib.hid hS
  clear hS hl hF
  obtain ⟨W, HW⟩ : ∃ W, Hid (w.alloc (.cells (feedC p (n : Int) d s A1 n c1 A2 n c2) 56) = W) := ⟨_, rfl⟩
  have HK : Hid (Blk W w.heap.size 56 (feedC p (n : Int) d s A1 n c1 A2 n c2)) := by rw [← HW.out]; exact Blk.new w _ _
  have HB : Hid (Below w.heap.size w W) := by rw [← HW.out]; exact (Below.refl _ w).alloc (Nat.le_refl _) _
  have hzW : w.heap.size < W.heap.size := HK.out.lt
  obtain ⟨k0, k1, k2, k3, k4, k5⟩ := feed_cells HK.out
  go_enter Tryz.func21, Tryz.ntmps21
  go_wp2_with fail
  rw [HW.out]
  refine wp_region_held_drew (S := (fun w' => w'.cell? ⟨w.heap.size, 0, none⟩ = some (.int .i64 p) ∧ w'.cell? ⟨w.heap.size, 1, none⟩ = some (.int .i64 (n : Int)) ∧ w'.cell? ⟨w.heap.size, 2, none⟩ = some (.int .i64 d) ∧ w'.cell? ⟨w.heap.size, 3, none⟩ = some (.int .i64 s) ∧ w'.cell? ⟨w.heap.size, 4, none⟩ = some (.slice A1 n c1) ∧ w'.cell? ⟨w.heap.size, 5, none⟩ = some (.slice A2 n c2))) (by kernel_rfl) (feed_cells HK.out) (fun hHeld => ?_)
  refine wtk 0 ?zv414 4 rfl rfl (by kernel_rfl) (fun _ _ _ h => h) (by kernel_rfl) ?zy414 (by assumption) ?zr414
  case zy414 => (intro w hSw; (try dsimp only at hSw); go_simp; try with_reducible rfl)
  simp only [Act.put, aput]
  refine wtk 1 ?zv415 5 rfl rfl (by kernel_rfl) (fun _ _ _ h => h) (by kernel_rfl) ?zy415 (by assumption) ?zr415
  case zy415 => (intro w hSw; (try dsimp only at hSw); go_simp; try with_reducible rfl)
  simp only [Act.put, aput]
  refine wpAnyH_ready (rs := [2]) (by kernel_rfl) (by simp) (AllReadyH.cons rfl (fun K hK => ?_) AllReadyH.nil)
  go_simp
  go_at_call 50
  refine (skey_yes _ _ h0 h1).mono ?_
  rintro e w' ⟨rfl, rfl⟩
  refine hK.out _ _ (feed_cells HK.out) (fun hHeld => ?_)
  clear hK K
  (try simp only [Act.put, aput])
  refine wtk 3 ?zv416 7 rfl rfl (by kernel_rfl) (fun _ _ _ h => h) (by kernel_rfl) ?zy416 (by assumption) ?zr416
  case zy416 => (intro w hSw; (try dsimp only at hSw); go_simp; try with_reducible rfl)
  simp only [Act.put, aput]
  refine wtk 4 ?zv417 8 rfl rfl (by kernel_rfl) (fun _ _ _ h => h) (by kernel_rfl) ?zy417 (by assumption) ?zr417
  case zy417 => (intro w hSw; (try dsimp only at hSw); go_simp; try with_reducible rfl)
  simp only [Act.put, aput]
  refine wtk 5 ?zv418 9 rfl rfl (by kernel_rfl) (fun _ _ _ h => h) (by kernel_rfl) ?zy418 (by assumption) ?zr418
  case zy418 => (intro w hSw; (try dsimp only at hSw); go_simp; try with_reducible rfl)
  simp only [Act.put, aput]
  refine wtk 6 ?zv419 10 rfl rfl (by kernel_rfl) (fun _ _ _ h => h) (by kernel_rfl) ?zy419 (by assumption) ?zr419
  case zy419 => (intro w hSw; (try dsimp only at hSw); go_simp; try with_reducible rfl)
  simp only [Act.put, aput]
  refine wpAnyH_ready (rs := [7]) (by kernel_rfl) (by simp) (AllReadyH.cons rfl (fun K hK => ?_) AllReadyH.nil)
  go_simp
  go_at_call 54
  refine (empty_any _).mono ?_
  rintro e w1 ⟨rfl, hb1⟩
  have HB1 : Hid (Below W.heap.size W w1) := below_drew_l hb1
  have HK1 := Lib.hid (HK.out.below HB1.out hzW)
  clear hb1
  refine hK.out _ _ (feed_cells HK1.out) (fun hHeld => ?_)
  clear hK K
  (try simp only [Act.put, aput])
  refine wtk 8 ?zv420 12 rfl rfl (by kernel_rfl) (fun _ _ _ h => h) (by kernel_rfl) ?zy420 (by assumption) ?zr420
  case zy420 => (intro w hSw; (try dsimp only at hSw); go_simp; try with_reducible rfl)
  simp only [Act.put, aput]
  refine wtk 9 ?zv421 13 rfl rfl (by kernel_rfl) (fun _ _ _ h => h) (by kernel_rfl) ?zy421 (by assumption) ?zr421
  case zy421 => (intro w hSw; (try dsimp only at hSw); go_simp; try with_reducible rfl)
  simp only [Act.put, aput]
  refine wtk 10 ?zv422 14 rfl rfl (by kernel_rfl) (fun _ _ _ h => h) (by kernel_rfl) ?zy422 (by assumption) ?zr422
  case zy422 => (intro w hSw; (try dsimp only at hSw); go_simp; try with_reducible rfl)
  simp only [Act.put, aput]
  refine wtk 11 ?zv423 15 rfl rfl (by kernel_rfl) (fun _ _ _ h => h) (by kernel_rfl) ?zy423 (by assumption) ?zr423
  case zy423 => (intro w hSw; (try dsimp only at hSw); go_simp; try with_reducible rfl)
  simp only [Act.put, aput]
  refine wtk 12 ?zv424 16 rfl rfl (by kernel_rfl) (fun _ _ _ h => h) (by kernel_rfl) ?zy424 (by assumption) ?zr424
  case zy424 => (intro w hSw; (try dsimp only at hSw); go_simp; try with_reducible rfl)
  simp only [Act.put, aput]
  refine wtk 13 ?zv425 17 rfl rfl (by kernel_rfl) (fun _ _ _ h => h) (by kernel_rfl) ?zy425 (by assumption) ?zr425
  case zy425 => (intro w hSw; (try dsimp only at hSw); go_simp; try with_reducible rfl)
  simp only [Act.put, aput]
  refine wpAnyH_ready (rs := [14]) (by kernel_rfl) (by simp) (AllReadyH.cons rfl (fun K hK => ?_) AllReadyH.nil)
  go_simp
  go_at_call 55
  refine (scheck_any p (n : Int) d s _).mono ?_
  rintro e w2 ⟨rfl, hb2⟩
  rw [HS.out]
  have HB2 := Lib.hid hb2
  have HK2 := Lib.hid (HK1.out.below HB2.out (Nat.lt_of_lt_of_le hzW HB1.out.size))
  clear hb2
  refine hK.out _ _ (feed_cells HK2.out) (fun hHeld => ?_)
  clear hK K
  (try simp only [Act.put, aput])
  refine wtk 15 ?zv426 19 rfl rfl (by kernel_rfl) (fun _ _ _ h => h) (by kernel_rfl) ?zy426 (by assumption) ?zr426
  case zy426 => (intro w hSw; (try dsimp only at hSw); go_simp; try with_reducible rfl)
  simp only [Act.put, aput]
  refine wtk 16 ?zv427 20 rfl rfl (by kernel_rfl) (fun _ _ _ h => h) (by kernel_rfl) ?zy427 (by assumption) ?zr427
  case zy427 => (intro w hSw; (try dsimp only at hSw); go_simp; try with_reducible rfl)
  simp only [Act.put, aput]
  refine wtk 17 ?zv428 21 rfl rfl (by kernel_rfl) (fun _ _ _ h => h) (by kernel_rfl) ?zy428 (by assumption) ?zr428
  case zy428 => (intro w hSw; (try dsimp only at hSw); go_simp; try with_reducible rfl)
  simp only [Act.put, aput]
  refine wtk 18 ?zv429 22 rfl rfl (by kernel_rfl) (fun _ _ _ h => h) (by kernel_rfl) ?zy429 (by assumption) ?zr429
  case zy429 => (intro w hSw; (try dsimp only at hSw); go_simp; try with_reducible rfl)
  simp only [Act.put, aput]
  refine wtk 19 ?zv430 23 rfl rfl (by kernel_rfl) (fun _ _ _ h => h) (by kernel_rfl) ?zy430 (by assumption) ?zr430
  case zy430 => (intro w hSw; (try dsimp only at hSw); go_simp; try with_reducible rfl)
  simp only [Act.put, aput]
  refine wtk 20 ?zv431 24 rfl rfl (by kernel_rfl) (fun _ _ _ h => h) (by kernel_rfl) ?zy431 (by assumption) ?zr431
  case zy431 => (intro w hSw; (try dsimp only at hSw); go_simp; try with_reducible rfl)
  simp only [Act.put, aput]
  refine wtk 21 ?zv432 25 rfl rfl (by kernel_rfl) (fun _ _ _ h => h) (by kernel_rfl) ?zy432 (by assumption) ?zr432
  case zy432 => (intro w hSw; (try dsimp only at hSw); go_simp; try with_reducible rfl)
  simp only [Act.put, aput]
  refine wtk 22 ?zv433 26 rfl rfl (by kernel_rfl) (fun _ _ _ h => h) (by kernel_rfl) ?zy433 (by assumption) ?zr433
  case zy433 => (intro w hSw; (try dsimp only at hSw); go_simp; try with_reducible rfl)
  simp only [Act.put, aput]
  refine wtk 23 ?zv434 27 rfl rfl (by kernel_rfl) (fun _ _ _ h => h) (by kernel_rfl) ?zy434 (by assumption) ?zr434
  case zy434 => (intro w hSw; (try dsimp only at hSw); go_simp; try with_reducible rfl)
  simp only [Act.put, aput]
  refine wtk 24 ?zv435 28 rfl rfl (by kernel_rfl) (fun _ _ _ h => h) (by kernel_rfl) ?zy435 (by assumption) ?zr435
  case zy435 => (intro w hSw; (try dsimp only at hSw); go_simp; try with_reducible rfl)
  simp only [Act.put, aput]
  refine wtk 25 ?zv436 29 rfl rfl (by kernel_rfl) (fun _ _ _ h => h) (by kernel_rfl) ?zy436 (by assumption) ?zr436
  case zy436 => (intro w hSw; (try dsimp only at hSw); go_simp; try with_reducible rfl)
  simp only [Act.put, aput]
  refine wtk 26 ?zv437 30 rfl rfl (by kernel_rfl) (fun _ _ _ h => h) (by kernel_rfl) ?zy437 (by assumption) ?zr437
  case zy437 => (intro w hSw; (try dsimp only at hSw); go_simp; try with_reducible rfl)
  simp only [Act.put, aput]
  refine wtk 27 ?zv438 31 rfl rfl (by kernel_rfl) (fun _ _ _ h => h) (by kernel_rfl) ?zy438 (by assumption) ?zr438
  case zy438 => (intro w hSw; (try dsimp only at hSw); go_simp; try with_reducible rfl)
  simp only [Act.put, aput]
  refine wtk 28 ?zv439 32 rfl rfl (by kernel_rfl) (fun _ _ _ h => h) (by kernel_rfl) ?zy439 (by assumption) ?zr439
  case zy439 => (intro w hSw; (try dsimp only at hSw); go_simp; try with_reducible rfl)
  simp only [Act.put, aput]
  refine wtk 29 ?zv440 33 rfl rfl (by kernel_rfl) (fun _ _ _ h => h) (by kernel_rfl) ?zy440 (by assumption) ?zr440
  case zy440 => (intro w hSw; (try dsimp only at hSw); go_simp; try with_reducible rfl)
  simp only [Act.put, aput]
  refine wtk 30 ?zv441 34 rfl rfl (by kernel_rfl) (fun _ _ _ h => h) (by kernel_rfl) ?zy441 (by assumption) ?zr441
  case zy441 => (intro w hSw; (try dsimp only at hSw); go_simp; try with_reducible rfl)
  simp only [Act.put, aput]
  refine wtk 31 ?zv442 35 rfl rfl (by kernel_rfl) (fun _ _ _ h => h) (by kernel_rfl) ?zy442 (by assumption) ?zr442
  case zy442 => (intro w hSw; (try dsimp only at hSw); go_simp; try with_reducible rfl)
  simp only [Act.put, aput]
  refine wtk 32 ?zv443 36 rfl rfl (by kernel_rfl) (fun _ _ _ h => h) (by kernel_rfl) ?zy443 (by assumption) ?zr443
  case zy443 => (intro w hSw; (try dsimp only at hSw); go_simp; try with_reducible rfl)
  simp only [Act.put, aput]
  refine wtk 33 ?zv444 37 rfl rfl (by kernel_rfl) (fun _ _ _ h => h) (by kernel_rfl) ?zy444 (by assumption) ?zr444
  case zy444 => (intro w hSw; (try dsimp only at hSw); go_simp; try with_reducible rfl)
  simp only [Act.put, aput]
  refine wtk 34 ?zv445 38 rfl rfl (by kernel_rfl) (fun _ _ _ h => h) (by kernel_rfl) ?zy445 (by assumption) ?zr445
  case zy445 => (intro w hSw; (try dsimp only at hSw); go_simp; try with_reducible rfl)
  simp only [Act.put, aput]
  refine wtk 35 ?zv446 39 rfl rfl (by kernel_rfl) (fun _ _ _ h => h) (by kernel_rfl) ?zy446 (by assumption) ?zr446
  case zy446 => (intro w hSw; (try dsimp only at hSw); go_simp; try with_reducible rfl)
  simp only [Act.put, aput]
  refine wpAnyH_done (by kernel_rfl) ?_ _
  have HBE : Hid (Below w.heap.size w w2) := HB.out.trans ((HB1.out.mono HB.out.size).trans (HB2.out.mono (Nat.le_trans HB.out.size HB1.out.size)))
  have HKE := HK2
  obtain ⟨j0, j1, j2, j3, j4, j5⟩ := feed_cells HKE.out
  have hzE : w.heap.size < w2.heap.size := HKE.out.lt
  clear k0 k1 k2 k3 k4 k5 hHeld
  go_wp2
  go_loop [3] (fun i => ∃ k : Nat, k ≤ n ∧ i = .int .i64 k ∧ Hid (TextsTo bs hs k)) (fun i => n - (intOf i).toNat)
  case atStart => exact ⟨0, Nat.zero_le _, rfl, TextsTo.zero bs hs⟩
  case round =>
    obtain ⟨k, hk, rfl, HD⟩ := hrel
    by_cases hlt : k < n
    · have hlz : k < bs.length := by rw [HN.out]; exact hlt
      have hlh : k < hs.length := by rw [HNH.out]; exact hlt
      have HLZ := Lib.hid hlz
      obtain ⟨b, o, rfl, hb, hc⟩ := (HF.out.belowS HBE.out).strs (by omega)
      obtain ⟨b2, o2, rfl, hb2, hc2⟩ := (HF.out.belowS HBE.out).bits (by omega)
      have hck := hc k hlz
      have hck2 := hc2 k hlh
      have hfit := HF.out.fit k
      unfold maxLen at hfit
      have hki : (k : Int) < (n : Int) := by omega
      have hkd : decide (k < n) = true := by simp [hlt]
      obtain ⟨t, HT⟩ : ∃ t, Hid (sth bs k = t) := ⟨_, rfl⟩
      obtain ⟨c, HC⟩ : ∃ c, Hid (bth hs k = c) := ⟨_, rfl⟩
      rw [HT.out] at hck hfit
      rw [HC.out] at hck2
      clear hc hc2 hlz hlh
      by_cases h8 : t.size ≤ 8
      · cases c with
        | true =>
          have HX : Hid (TextsTo bs hs (k + 1)) := HD.out.next (by rw [HT.out]; exact h8) (.inr HC.out)
          go_wp2
          go_round
          case rel => exact ⟨k + 1, by omega, by go_num, HX⟩
          case measure => simp [intOf]; omega
        | false =>
          by_cases he : t = ByteArray.empty
          · have HX : Hid (TextsTo bs hs (k + 1)) := HD.out.next (by rw [HT.out]; exact h8) (.inl (by rw [HT.out]; exact he))
            subst he
            go_wp2
            go_round
            case rel => exact ⟨k + 1, by omega, by go_num, HX⟩
            case measure => simp [intOf]; omega
          · have HX : Hid (okB ⟨p, n, d, s, bs, hs⟩ = false) := ok_texts (textsOk_no HLZ.out (by rw [HT.out, HC.out]; rintro ⟨_, e | e⟩; exact he e; cases e))
            obtain ⟨e1, e2, e3⟩ := empty_list he
            go_wp2
            go_ret
            exact ⟨ret_bool HX.out.symm, HBE.out⟩
      · have HX : Hid (okB ⟨p, n, d, s, bs, hs⟩ = false) := ok_texts (textsOk_no HLZ.out (by rw [HT.out]; rintro ⟨e, _⟩; exact h8 e))
        have h9 : 8 < t.size := by omega
        clear h8
        go_wp2
        go_ret
        exact ⟨ret_bool HX.out.symm, HBE.out⟩
    · have hkn : k = n := by omega
      subst hkn
      have hkd : decide (k < k) = false := by simp
      have HTX : Hid (TextsOk bs hs) := fun j hj => HD.out j (by rw [HN.out] at hj; omega)
      have HX : Hid (okB ⟨p, k, d, s, bs, hs⟩ = (!noneF hs || u == d)) := by
        show _ = _
        rw [ok_last ⟨h0, h1⟩ (.inr HS.out) ⟨by rw [HN.out], by rw [HNH.out]⟩ (decide_eq_true HTX.out), HWH.out, HU.out]
      have HSH : Hid (Short bs) := fun j hj => (HTX.out j hj).1
      have hkb : ((k : Int) == 0) = false := beq_eq_false_iff_ne.2 (by omega)
      have hkb2 : (k == 0) = false := beq_eq_false_iff_ne.2 (by omega)
      cases hw : noneF hs with
      | false =>
        have HNF := Lib.hid hw
        rw [hw] at C2
        clear hw
        go_wp2_with fail
        refine wp_region_held_drew (S := (fun w' => w'.cell? ⟨w.heap.size, 0, none⟩ = some (.int .i64 p) ∧ w'.cell? ⟨w.heap.size, 1, none⟩ = some (.int .i64 (k : Int)) ∧ w'.cell? ⟨w.heap.size, 2, none⟩ = some (.int .i64 d) ∧ w'.cell? ⟨w.heap.size, 3, none⟩ = some (.int .i64 s) ∧ w'.cell? ⟨w.heap.size, 4, none⟩ = some (.slice A1 k c1) ∧ w'.cell? ⟨w.heap.size, 5, none⟩ = some (.slice A2 k c2))) (by kernel_rfl) (feed_cells HKE.out) (fun hHeld => ?_)
        refine wtk 0 ?zv447 70 rfl rfl (by kernel_rfl) (fun _ _ _ h => h) (by kernel_rfl) ?zy447 (by assumption) ?zr447
        case zy447 => (intro w hSw; (try dsimp only at hSw); go_simp; try with_reducible rfl)
        simp only [Act.put, aput]
        refine wtk 1 ?zv448 71 rfl rfl (by kernel_rfl) (fun _ _ _ h => h) (by kernel_rfl) ?zy448 (by assumption) ?zr448
        case zy448 => (intro w hSw; (try dsimp only at hSw); go_simp; try with_reducible rfl)
        simp only [Act.put, aput]
        refine wtk 2 ?zv449 72 rfl rfl (by kernel_rfl) (fun _ _ _ h => h) (by kernel_rfl) ?zy449 (by assumption) ?zr449
        case zy449 => (intro w hSw; (try dsimp only at hSw); go_simp; try with_reducible rfl)
        simp only [Act.put, aput]
        refine wtk 3 ?zv450 73 rfl rfl (by kernel_rfl) (fun _ _ _ h => h) (by kernel_rfl) ?zy450 (by assumption) ?zr450
        case zy450 => (intro w hSw; (try dsimp only at hSw); go_simp; try with_reducible rfl)
        simp only [Act.put, aput]
        refine wtk 4 ?zv451 74 rfl rfl (by kernel_rfl) (fun _ _ _ h => h) (by kernel_rfl) ?zy451 (by assumption) ?zr451
        case zy451 => (intro w hSw; (try dsimp only at hSw); go_simp; try with_reducible rfl)
        simp only [Act.put, aput]
        refine wtk 5 ?zv452 75 rfl rfl (by kernel_rfl) (fun _ _ _ h => h) (by kernel_rfl) ?zy452 (by assumption) ?zr452
        case zy452 => (intro w hSw; (try dsimp only at hSw); go_simp; try with_reducible rfl)
        simp only [Act.put, aput]
        refine wpAnyH_ready (rs := [6]) (by kernel_rfl) (by simp) (AllReadyH.cons rfl (fun K hK => ?_) AllReadyH.nil)
        go_simp
        go_at_call 22
        refine (C2.out _ (below_drew HBE.out)).mono ?_
        rintro e w3 ⟨rfl, hb3⟩
        have HB3 : Hid (Below w2.heap.size w2 w3) := below_drew_l hb3
        have HK3 := Lib.hid (HKE.out.below HB3.out hzE)
        have HB3w : Hid (Below w.heap.size w w3) := HBE.out.trans (HB3.out.mono HBE.out.size)
        clear hb3
        refine hK.out _ _ (feed_cells HK3.out) (fun hHeld => ?_)
        clear hK K
        (try simp only [Act.put, aput])
        refine wtk 7 ?zv453 77 rfl rfl (by kernel_rfl) (fun _ _ _ h => h) (by kernel_rfl) ?zy453 (by assumption) ?zr453
        case zy453 => (intro w hSw; (try dsimp only at hSw); go_simp; try with_reducible rfl)
        simp only [Act.put, aput]
        refine wtk 8 ?zv454 78 rfl rfl (by kernel_rfl) (fun _ _ _ h => h) (by kernel_rfl) ?zy454 (by assumption) ?zr454
        case zy454 => (intro w hSw; (try dsimp only at hSw); go_simp; try with_reducible rfl)
        simp only [Act.put, aput]
        refine wtk 9 ?zv455 79 rfl rfl (by kernel_rfl) (fun _ _ _ h => h) (by kernel_rfl) ?zy455 (by assumption) ?zr455
        case zy455 => (intro w hSw; (try dsimp only at hSw); go_simp; try with_reducible rfl)
        simp only [Act.put, aput]
        refine wtu 10 80 rfl rfl (by kernel_rfl) (fun _ _ _ h => h) (by kernel_rfl) (by assumption) ?_
        simp only [Act.put, aput]
        refine wtu 11 81 rfl rfl (by kernel_rfl) (fun _ _ _ h => h) (by kernel_rfl) (by assumption) ?_
        simp only [Act.put, aput]
        refine wtu 12 82 rfl rfl (by kernel_rfl) (fun _ _ _ h => h) (by kernel_rfl) (by assumption) ?_
        simp only [Act.put, aput]
        refine wtu 13 83 rfl rfl (by kernel_rfl) (fun _ _ _ h => h) (by kernel_rfl) (by assumption) ?_
        simp only [Act.put, aput]
        refine wtu 14 84 rfl rfl (by kernel_rfl) (fun _ _ _ h => h) (by kernel_rfl) (by assumption) ?_
        simp only [Act.put, aput]
        refine wtu 15 85 rfl rfl (by kernel_rfl) (fun _ _ _ h => h) (by kernel_rfl) (by assumption) ?_
        simp only [Act.put, aput]
        refine wtu 16 86 rfl rfl (by kernel_rfl) (fun _ _ _ h => h) (by kernel_rfl) (by assumption) ?_
        simp only [Act.put, aput]
        refine wtu 17 87 rfl rfl (by kernel_rfl) (fun _ _ _ h => h) (by kernel_rfl) (by assumption) ?_
        simp only [Act.put, aput]
        refine wtk 18 ?zv456 88 rfl rfl (by kernel_rfl) (fun _ _ _ h => h) (by kernel_rfl) ?zy456 (by assumption) ?zr456
        case zy456 => (intro w hSw; (try dsimp only at hSw); go_simp; try with_reducible rfl)
        simp only [Act.put, aput]
        refine wtk 19 ?zv457 2 rfl rfl (by kernel_rfl) (fun _ _ _ h => h) (by kernel_rfl) ?zy457 (by assumption) ?zr457
        case zy457 => (intro w hSw; (try dsimp only at hSw); go_simp; try with_reducible rfl)
        simp only [Act.put, aput]
        refine wpAnyH_done (by kernel_rfl) ?_ _
        go_wp2
        go_ret
        exact ⟨ret_bool (by rw [HX.out, HNF.out]; rfl), HB3w.out⟩
      | true =>
        have HNF := Lib.hid hw
        rw [hw] at C2
        clear hw
        go_wp2_with fail
        refine wp_region_held_drew (S := (fun w' => w'.cell? ⟨w.heap.size, 0, none⟩ = some (.int .i64 p) ∧ w'.cell? ⟨w.heap.size, 1, none⟩ = some (.int .i64 (k : Int)) ∧ w'.cell? ⟨w.heap.size, 2, none⟩ = some (.int .i64 d) ∧ w'.cell? ⟨w.heap.size, 3, none⟩ = some (.int .i64 s) ∧ w'.cell? ⟨w.heap.size, 4, none⟩ = some (.slice A1 k c1) ∧ w'.cell? ⟨w.heap.size, 5, none⟩ = some (.slice A2 k c2))) (by kernel_rfl) (feed_cells HKE.out) (fun hHeld => ?_)
        refine wtk 0 ?zv458 70 rfl rfl (by kernel_rfl) (fun _ _ _ h => h) (by kernel_rfl) ?zy458 (by assumption) ?zr458
        case zy458 => (intro w hSw; (try dsimp only at hSw); go_simp; try with_reducible rfl)
        simp only [Act.put, aput]
        refine wtk 1 ?zv459 71 rfl rfl (by kernel_rfl) (fun _ _ _ h => h) (by kernel_rfl) ?zy459 (by assumption) ?zr459
        case zy459 => (intro w hSw; (try dsimp only at hSw); go_simp; try with_reducible rfl)
        simp only [Act.put, aput]
        refine wtk 2 ?zv460 72 rfl rfl (by kernel_rfl) (fun _ _ _ h => h) (by kernel_rfl) ?zy460 (by assumption) ?zr460
        case zy460 => (intro w hSw; (try dsimp only at hSw); go_simp; try with_reducible rfl)
        simp only [Act.put, aput]
        refine wtk 3 ?zv461 73 rfl rfl (by kernel_rfl) (fun _ _ _ h => h) (by kernel_rfl) ?zy461 (by assumption) ?zr461
        case zy461 => (intro w hSw; (try dsimp only at hSw); go_simp; try with_reducible rfl)
        simp only [Act.put, aput]
        refine wtk 4 ?zv462 74 rfl rfl (by kernel_rfl) (fun _ _ _ h => h) (by kernel_rfl) ?zy462 (by assumption) ?zr462
        case zy462 => (intro w hSw; (try dsimp only at hSw); go_simp; try with_reducible rfl)
        simp only [Act.put, aput]
        refine wtk 5 ?zv463 75 rfl rfl (by kernel_rfl) (fun _ _ _ h => h) (by kernel_rfl) ?zy463 (by assumption) ?zr463
        case zy463 => (intro w hSw; (try dsimp only at hSw); go_simp; try with_reducible rfl)
        simp only [Act.put, aput]
        refine wpAnyH_ready (rs := [6]) (by kernel_rfl) (by simp) (AllReadyH.cons rfl (fun K hK => ?_) AllReadyH.nil)
        go_simp
        go_at_call 22
        refine (C2.out _ (below_drew HBE.out)).mono ?_
        rintro e w3 ⟨rfl, hb3⟩
        have HB3 : Hid (Below w2.heap.size w2 w3) := below_drew_l hb3
        have HK3 := Lib.hid (HKE.out.below HB3.out hzE)
        have HB3w : Hid (Below w.heap.size w w3) := HBE.out.trans (HB3.out.mono HBE.out.size)
        clear hb3
        refine hK.out _ _ (feed_cells HK3.out) (fun hHeld => ?_)
        clear hK K
        (try simp only [Act.put, aput])
        refine wtk 7 ?zv464 77 rfl rfl (by kernel_rfl) (fun _ _ _ h => h) (by kernel_rfl) ?zy464 (by assumption) ?zr464
        case zy464 => (intro w hSw; (try dsimp only at hSw); go_simp; try with_reducible rfl)
        simp only [Act.put, aput]
        refine wtk 8 ?zv465 78 rfl rfl (by kernel_rfl) (fun _ _ _ h => h) (by kernel_rfl) ?zy465 (by assumption) ?zr465
        case zy465 => (intro w hSw; (try dsimp only at hSw); go_simp; try with_reducible rfl)
        simp only [Act.put, aput]
        refine wtk 9 ?zv466 79 rfl rfl (by kernel_rfl) (fun _ _ _ h => h) (by kernel_rfl) ?zy466 (by assumption) ?zr466
        case zy466 => (intro w hSw; (try dsimp only at hSw); go_simp; try with_reducible rfl)
        simp only [Act.put, aput]
        refine wtk 10 ?zv467 80 rfl rfl (by kernel_rfl) (fun _ _ _ h => h) (by kernel_rfl) ?zy467 (by assumption) ?zr467
        case zy467 => (intro w hSw; (try dsimp only at hSw); go_simp; try with_reducible rfl)
        simp only [Act.put, aput]
        refine wtk 11 ?zv468 81 rfl rfl (by kernel_rfl) (fun _ _ _ h => h) (by kernel_rfl) ?zy468 (by assumption) ?zr468
        case zy468 => (intro w hSw; (try dsimp only at hSw); go_simp; try with_reducible rfl)
        simp only [Act.put, aput]
        refine wtk 14 ?zv469 84 rfl rfl (by kernel_rfl) (fun _ _ _ h => h) (by kernel_rfl) ?zy469 (by assumption) ?zr469
        case zy469 => (intro w hSw; (try dsimp only at hSw); go_simp; try with_reducible rfl)
        simp only [Act.put, aput]
        refine wtk 15 ?zv470 85 rfl rfl (by kernel_rfl) (fun _ _ _ h => h) (by kernel_rfl) ?zy470 (by assumption) ?zr470
        case zy470 => (intro w hSw; (try dsimp only at hSw); go_simp; try with_reducible rfl)
        simp only [Act.put, aput]
        refine wtk 16 ?zv471 86 rfl rfl (by kernel_rfl) (fun _ _ _ h => h) (by kernel_rfl) ?zy471 (by assumption) ?zr471
        case zy471 => (intro w hSw; (try dsimp only at hSw); go_simp; try with_reducible rfl)
        simp only [Act.put, aput]
        refine wpAnyH_ready (rs := [12]) (by kernel_rfl) (by simp) (AllReadyH.cons rfl (fun K hK => ?_) AllReadyH.nil)
        go_simp
        go_at_call 57
        refine (C3.out _ HB3w.out HSH.out).mono ?_
        rintro e w4 ⟨X4, c4, rfl, ho4, hb4⟩
        have HO4 := Lib.hid ho4
        have HB4 : Hid (Below w3.heap.size w3 w4) := hb4
        have HK4 := Lib.hid (HK3.out.below HB4.out HK3.out.lt)
        clear hb4 ho4
        rw [HLL.out]
        refine hK.out _ _ (feed_cells HK4.out) (fun hHeld => ?_)
        clear hK K
        (try simp only [Act.put, aput])
        refine wpAnyH_ready (rs := [13]) (by kernel_rfl) (by simp) (AllReadyH.cons rfl (fun K hK => ?_) AllReadyH.nil)
        go_simp
        go_at_call 56
        refine (stdig_own HO4.out HLL.out hx HU.out).mono ?_
        rintro e w5 ⟨rfl, hb5⟩
        have HB5 := Lib.hid hb5
        have HK5 := Lib.hid (HK4.out.below HB5.out HK4.out.lt)
        clear hb5
        refine hK.out _ _ (feed_cells HK5.out) (fun hHeld => ?_)
        clear hK K
        (try simp only [Act.put, aput])
        refine wtk 17 ?zv472 87 rfl rfl (by kernel_rfl) (fun _ _ _ h => h) (by kernel_rfl) ?zy472 (by assumption) ?zr472
        case zy472 => (intro w hSw; (try dsimp only at hSw); go_simp; try with_reducible rfl)
        simp only [Act.put, aput]
        refine wtk 18 ?zv473 88 rfl rfl (by kernel_rfl) (fun _ _ _ h => h) (by kernel_rfl) ?zy473 (by assumption) ?zr473
        case zy473 => (intro w hSw; (try dsimp only at hSw); go_simp; try with_reducible rfl)
        simp only [Act.put, aput]
        refine wtk 19 ?zv474 2 rfl rfl (by kernel_rfl) (fun _ _ _ h => h) (by kernel_rfl) ?zy474 (by assumption) ?zr474
        case zy474 => (intro w hSw; (try dsimp only at hSw); go_simp; try with_reducible rfl)
        simp only [Act.put, aput]
        refine wpAnyH_done (by kernel_rfl) ?_ _
        go_wp2
        go_ret
        exact ⟨ret_bool (by rw [HX.out, HNF.out]; simp), HB3w.out.trans ((HB4.out.mono HB3w.out.size).trans (HB5.out.mono (Nat.le_trans HB3w.out.size HB4.out.size)))⟩

end Go.Proofs.YtkmebilhbjcfpaaGreat
