/- The contract of the model's FeedPut: the feed with the block, or the same feed, or none, in memory of its own. Conditions: the feed and the proof lie in memory. -/
import Derived.Test.YtgklkceoafohmaaDoorFeedPut
import Derived.Test.YtgklkceoafohmaaDoorSFeedValid
import Derived.Test.YtgklkceoafohmaaDoorBaseK
import Derived.Test.YtgklkceoafohmaaDoorFeedDraw
namespace Go.Proofs.YtgklkceoafohmaaDoor
open Go.RowKit
set_option linter.unusedVariables false

theorem bits_cell {w : World} {B : Nat} {A2 : Option Addr} {hs : List Bool} {b o : Nat} (h : BoolsAt w B A2 hs) (hA : A2 = some ⟨b, o, none⟩) (k : Nat) (hk : k < hs.length) : w.cell? ⟨b, o + k, none⟩ = some (.bool (bth hs k)) := by
  subst hA; exact (h.lt (by omega)).2 k hk

set_option maxHeartbeats 16000000 in
set_option maxRecDepth 100000 in
theorem sfeedPut_any (p l d s : Int) (A1 : Option Addr) (c1 : Nat) (A2 : Option Addr) (c2 : Nat) (bs : List ByteArray) (hs : List Bool) (i : Int) (t : ByteArray) (X : Option Addr) (cz : Nat) (zs : List Int) (w : World) (hF : FeedAt w w.heap.size A1 A2 bs hs) (hn1 : A1 = none → c1 = 0) (hn2 : A2 = none → c2 = 0) (hG : IntsAt w w.heap.size X zs) (hmz : zs.length ≤ maxLen) (ht : t.size ≤ maxLen) :
    Calls Tryd.prog 11 #[feedV p l d s A1 bs.length c1 A2 hs.length c2, .int .i64 i, .string t, .slice X zs.length cz] w (PutRet w (putR ⟨p, l, d, s, bs, hs⟩ i t zs) (putOk ⟨p, l, d, s, bs, hs⟩ i t zs)) := by
  have HF := Lib.hid hF
  have HG := Lib.hid hG
  have HMZ := Lib.hid hmz
  have HT8 := Lib.hid ht
  have CV : Hid (∀ U, Below w.heap.size w U → Calls Tryd.prog 39 #[feedV p l d s A1 bs.length c1 A2 hs.length c2] U fun e w' => e = .returned (.bool (okB ⟨p, l, d, s, bs, hs⟩)) ∧ Below U.heap.size U w') := fun U hU => sfeedValid_any p l d s A1 c1 A2 c2 bs hs U (HF.out.belowS hU)
  have CC : Hid (bs.length ≤ 1048576 → hs.length ≤ 1048576 → ∀ U, Below w.heap.size w U → Calls Tryd.prog 40 #[feedV p l d s A1 bs.length c1 A2 hs.length c2] U (FeedMade U p l d s bs hs)) := fun q1 q2 U hU => copyFeed_any p l d s A1 c1 A2 c2 bs hs U (HF.out.belowS hU) hn1 hn2 q1 q2
  obtain ⟨nz, HNZ⟩ : ∃ n, Hid (zs.length = n) := ⟨_, rfl⟩
  obtain ⟨nb, HNB⟩ : ∃ n, Hid (bs.length = n) := ⟨_, rfl⟩
  obtain ⟨nh, HNH⟩ : ∃ n, Hid (hs.length = n) := ⟨_, rfl⟩
  rw [HNB.out, HNH.out] at CV CC
  rw [HNB.out, HNH.out, HNZ.out]
  obtain ⟨W, HW⟩ : ∃ W, Hid ((w.alloc (.cells (feedC p l d s A1 nb c1 A2 nh c2) 28)).alloc (.cells (feedC 0 0 0 0 none 0 0 none 0 0) 28) = W) := ⟨_, rfl⟩
  have KF : Hid (Blk W w.heap.size 28 (feedC p l d s A1 nb c1 A2 nh c2)) := by rw [← HW.out]; exact (Blk.new w _ _).alloc _
  have KZ : Hid (Blk W (w.heap.size + 1) 28 (feedC 0 0 0 0 none 0 0 none 0 0)) := by
    rw [← HW.out]
    have h := Blk.new (w.alloc (.cells (feedC p l d s A1 nb c1 A2 nh c2) 28)) 28 (feedC 0 0 0 0 none 0 0 none 0 0)
    rw [World.size_alloc] at h
    exact h
  have HB : Hid (Below w.heap.size w W) := by rw [← HW.out]; exact ((Below.refl _ w).alloc (Nat.le_refl _) _).alloc (by simp) _
  obtain ⟨gz, hgz⟩ : ∃ v, w.heap.size + 1 = v := ⟨_, rfl⟩
  rw [hgz] at KZ
  have hgz1 : w.heap.size < gz := by omega
  have hgz2 : gz < W.heap.size := KZ.out.lt
  obtain ⟨k0, k1, k2, k3, k4, k5⟩ := feed_cells KF.out
  clear hF hG hmz hn1 hn2
  unfold maxLen at ht
  cases hO : okB ⟨p, l, d, s, bs, hs⟩ with
  | false =>
    have HPK : Hid (putOk ⟨p, l, d, s, bs, hs⟩ i t zs = false) := putOk_no fun h => by rw [hO] at h; cases h.1
    have HPR : Hid (putR ⟨p, l, d, s, bs, hs⟩ i t zs = zeroF) := putR_inv fun h => by rw [hO] at h; cases h.1
    rw [hO] at CV
    clear hO CC
    go_enter Tryd.func11, Tryd.ntmps11
    go_upto_region 1 with fail
    rw [HW.out]
    go_wp2_with fail
    refine (CV.out _ HB.out).mono ?_
    rintro e w1 ⟨rfl, hb1⟩
    have KF1 := Lib.hid (KF.out.below hb1 KF.out.lt)
    have KZ1 := Lib.hid (KZ.out.below hb1 KZ.out.lt)
    have HB1 : Hid (Below w.heap.size w w1) := HB.out.trans (hb1.mono HB.out.size)
    have hz1 : W.heap.size ≤ w1.heap.size := hb1.size
    clear hb1 k0 k1 k2 k3 k4 k5
    obtain ⟨r0, r1, r2, r3, r4, r5⟩ := feed_cells KZ1.out
    have rf := blk_frozen KZ1.out
    go_wp2
    obtain ⟨Y, HY⟩ : ∃ Y, Hid (((((((w1.setCell ⟨gz, 0, none⟩ (.int .i64 0)).setCell ⟨gz, 1, none⟩ (.int .i64 0)).setCell ⟨gz, 2, none⟩ (.int .i64 0)).setCell ⟨gz, 3, none⟩ (.int .i64 0)).setCell ⟨gz, 4, none⟩ (.slice none 0 0)).setCell ⟨gz, 5, none⟩ (.slice none 0 0)) = Y) := ⟨_, rfl⟩
    have HBY : Hid (Below w.heap.size w Y) := by rw [← HY.out]; exact below_six HB1.out (by omega) _ _ _ _ _ _
    have KRY : Hid (Blk Y gz 28 (feedC 0 0 0 0 none 0 0 none 0 0)) := by rw [← HY.out]; exact blk_six KZ1.out _ _ _ _ _ _
    have hoF : OwnFeed Y w.heap.size none 0 none 0 [] [] := ⟨⟨rfl, .inl ⟨rfl, rfl⟩⟩, ⟨rfl, .inl ⟨rfl, rfl⟩⟩, fun k => Nat.zero_le _⟩
    rw [HY.out]
    obtain ⟨y0, y1, y2, y3, y4, y5⟩ := feed_cells KRY.out
    exact bodyPost_ret (v := .tuple #[feedV 0 0 0 0 none 0 0 none 0 0, .bool false]) (by simp [results, Tryd.results11, go_sem, y0, y1, y2, y3, y4, y5]) rfl ⟨_, _, _, _, by rw [HPR.out, HPK.out]; rfl, by rw [HPR.out]; exact hoF, HBY.out⟩
  | true =>
    have hok := (okB_iff _).1 hO
    have hlen := hok.len
    simp only at hlen
    have hbl : (nb : Int) = l := by have h := hok.2.2.1.1; simp only at h; rw [HNB.out] at h; exact h
    have hhl : nb = nh := by have h := hlen.2; rw [HNB.out, HNH.out] at h; exact h.symm
    have hn16 : nb ≤ 16 := by have h := hlen.1; rw [HNB.out] at h; exact h
    subst hbl
    subst hhl
    have CC2 := Lib.hid (CC.out (by omega) (by omega))
    rw [hO] at CV
    clear hok hlen CC
    by_cases h8 : t.size ≤ 8
    · have h8i : ¬ (8 : Int) < (t.size : Int) := by omega
      by_cases hin : 0 ≤ i ∧ i ≤ (nb : Int) - 1
      · obtain ⟨k, rfl⟩ : ∃ k : Nat, i = (k : Int) := ⟨i.toNat, by omega⟩
        have hk : k < nb := by omega
        have hkz : k < hs.length := by rw [HNH.out]; exact hk
        obtain ⟨bb, ob, rfl⟩ : ∃ b o, A2 = some ⟨b, o, none⟩ := by
          obtain ⟨b, o, h, _⟩ := HF.out.bits.at_ (by omega)
          exact ⟨b, o, h⟩
        obtain ⟨x, HX⟩ : ∃ x, Hid (bth hs k = x) := ⟨_, rfl⟩
        have HBITW : Hid (∀ U, Below w.heap.size w U → U.cell? ⟨bb, ob + k, none⟩ = some (.bool x)) := fun U hU => by rw [← HX.out]; exact bits_cell (HF.out.belowS hU).bits rfl k hkz
        have HLK : Hid (lacksB ⟨p, (nb : Int), d, s, bs, hs⟩ (k : Int) = !x) := by
          show _ = _
          rw [← HX.out]
          unfold lacksB
          rw [Int.toNat_natCast]
          cases hh : bth hs k with
          | true => rw [decide_eq_false]; rfl; rintro ⟨_, _, h3⟩; cases h3
          | false => rw [decide_eq_true]; rfl; exact ⟨by omega, by simp only; omega, rfl⟩
        have CIN : Hid (∀ U, Calls Tryd.prog 41 #[.int .i64 (k : Int), .int .i64 0, .int .i64 ((nb : Int) - 1)] U fun e w' => e = .returned (.bool true) ∧ Below U.heap.size U w') := fun U => (in_yes (k : Int) 0 ((nb : Int) - 1) U hin.1 hin.2).mono fun e w' ⟨he, hw⟩ => ⟨he, by subst hw; exact Below.refl _ _⟩
        have hwn : IntKind.i64.wrap ((nb : Int) - 1) = (nb : Int) - 1 := IntWalk.i64_in _ (by omega)
        have hk0 : (0 : Int) ≤ (k : Int) := by omega
        have hki : (k : Int) < (nb : Int) := by omega
        clear hin hkz
        cases x with
        | true =>
          have HPK : Hid (putOk ⟨p, (nb : Int), d, s, bs, hs⟩ (k : Int) t zs = false) := putOk_no fun h => by rw [HLK.out] at h; cases h.2.2.1
          have HPR : Hid (putR ⟨p, (nb : Int), d, s, bs, hs⟩ (k : Int) t zs = ⟨p, (nb : Int), d, s, bs, hs⟩) := putR_no hO h8 HPK.out
          clear hO h8
          go_enter Tryd.func11, Tryd.ntmps11
          go_upto_region 1 with fail
          rw [HW.out]
          go_wp2_with fail
          refine (CV.out _ HB.out).mono ?_
          rintro e w1 ⟨rfl, hb1⟩
          have KF1 := Lib.hid (KF.out.below hb1 KF.out.lt)
          have KZ1 := Lib.hid (KZ.out.below hb1 KZ.out.lt)
          have HB1 : Hid (Below w.heap.size w w1) := HB.out.trans (hb1.mono HB.out.size)
          have hz1 : W.heap.size ≤ w1.heap.size := hb1.size
          clear hb1 k0 k1 k2 k3 k4 k5
          obtain ⟨k0, k1, k2, k3, k4, k5⟩ := feed_cells KF1.out
          go_wp2_with fail
          refine (CC2.out _ HB1.out).mono ?_
          rintro e w2 ⟨X1, e1, X2, e2, rfl, ho2, hb2⟩
          rw [HNB.out, HNH.out]
          obtain ⟨w3, HW3⟩ : ∃ V, Hid (w2.alloc (.cells (feedC p (nb : Int) d s X1 nb e1 X2 nb e2) 28) = V) := ⟨_, rfl⟩
          have hb3 : Below w2.heap.size w2 w3 := by rw [← HW3.out]; exact (Below.refl _ _).alloc (Nat.le_refl _) _
          have hz12 : w1.heap.size ≤ w2.heap.size := hb2.size
          have hlx : ∀ g, X1 = some ⟨g, 0, none⟩ → w1.heap.size ≤ g ∧ g < w2.heap.size := owns_lt ho2.strs
          have hly : ∀ g, X2 = some ⟨g, 0, none⟩ → w1.heap.size ≤ g ∧ g < w2.heap.size := ownb_lt ho2.bits
          have hxy : ∀ g g', X1 = some ⟨g, 0, none⟩ → X2 = some ⟨g', 0, none⟩ → g ≠ g' := rows_part ho2.strs ho2.bits
          have KF3 := Lib.hid ((KF1.out.below hb2 KF1.out.lt).below hb3 (KF1.out.below hb2 KF1.out.lt).lt)
          have KZ3 := Lib.hid ((KZ1.out.below hb2 KZ1.out.lt).below hb3 (KZ1.out.below hb2 KZ1.out.lt).lt)
          have KX3 : Hid (Blk w3 w2.heap.size 28 (feedC p (nb : Int) d s X1 nb e1 X2 nb e2)) := by rw [← HW3.out]; exact Blk.new w2 _ _
          have HO3 := Lib.hid (ho2.below hb3)
          have HB2 : Hid (Below w.heap.size w w2) := HB1.out.trans (hb2.mono HB1.out.size)
          have HB3 : Hid (Below w.heap.size w w3) := HB2.out.trans (hb3.mono HB2.out.size)
          have hz3 : w2.heap.size < w3.heap.size := KX3.out.lt
          clear hb2 hb3 ho2 k0 k1 k2 k3 k4 k5
          go_upto_region 4 with fail
          rw [HW3.out]
          have HBIT3 := Lib.hid (HBITW.out _ HB3.out)
          (try go_wp2_with fail)
          refine wp_region_held_drew (S := (fun w' => (w'.cell? ⟨w.heap.size, 0, none⟩ = some (.int .i64 p) ∧ w'.cell? ⟨w.heap.size, 1, none⟩ = some (.int .i64 (nb : Int)) ∧ w'.cell? ⟨w.heap.size, 2, none⟩ = some (.int .i64 d) ∧ w'.cell? ⟨w.heap.size, 3, none⟩ = some (.int .i64 s) ∧ w'.cell? ⟨w.heap.size, 4, none⟩ = some (.slice A1 nb c1) ∧ w'.cell? ⟨w.heap.size, 5, none⟩ = some (.slice (some ⟨bb, ob, none⟩) nb c2)) ∧ w'.cell? ⟨bb, ob + k, none⟩ = some (.bool true))) (by kernel_rfl) (⟨feed_cells KF3.out, HBIT3.out⟩) (fun hHeld => ?_)
          refine wpAnyH_take (i := 0) (v := ?zv121011) rfl (by kernel_rfl) (by kernel_rfl) (by kernel_rfl) (fun _ _ _ h => h) (Or.inl ⟨by kernel_rfl, ?zy121011⟩) (by assumption) ?zr121011
          case zy121011 => (intro w hSw; (try dsimp only at hSw); go_simp; try with_reducible rfl)
          change wpAnyH _ _ _ _ _ _ _ (Act.put _ (some 22) _) _
          simp only [Act.put, List.setIfInBounds_toArray, List.set_cons_zero, List.set_cons_succ]
          refine wpAnyH_take (i := 1) (v := ?zv121012) rfl (by kernel_rfl) (by kernel_rfl) (by kernel_rfl) (fun _ _ _ h => h) (Or.inl ⟨by kernel_rfl, ?zy121012⟩) (by assumption) ?zr121012
          case zy121012 => (intro w hSw; (try dsimp only at hSw); go_simp; try with_reducible rfl)
          change wpAnyH _ _ _ _ _ _ _ (Act.put _ (some 23) _) _
          simp only [Act.put, List.setIfInBounds_toArray, List.set_cons_zero, List.set_cons_succ]
          refine wpAnyH_take (i := 2) (v := ?zv121013) rfl (by kernel_rfl) (by kernel_rfl) (by kernel_rfl) (fun _ _ _ h => h) (Or.inl ⟨by kernel_rfl, ?zy121013⟩) (by assumption) ?zr121013
          case zy121013 => (intro w hSw; (try dsimp only at hSw); go_simp; try with_reducible rfl)
          change wpAnyH _ _ _ _ _ _ _ (Act.put _ (some 24) _) _
          simp only [Act.put, List.setIfInBounds_toArray, List.set_cons_zero, List.set_cons_succ]
          refine wpAnyH_take (i := 3) (v := ?zv121014) rfl (by kernel_rfl) (by kernel_rfl) (by kernel_rfl) (fun _ _ _ h => h) (Or.inl ⟨by kernel_rfl, ?zy121014⟩) (by assumption) ?zr121014
          case zy121014 => (intro w hSw; (try dsimp only at hSw); go_simp; try with_reducible rfl)
          change wpAnyH _ _ _ _ _ _ _ (Act.put _ (some 25) _) _
          simp only [Act.put, List.setIfInBounds_toArray, List.set_cons_zero, List.set_cons_succ]
          refine wpAnyH_take (i := 4) (v := ?zv121015) rfl (by kernel_rfl) (by kernel_rfl) (by kernel_rfl) (fun _ _ _ h => h) (Or.inl ⟨by kernel_rfl, ?zy121015⟩) (by assumption) ?zr121015
          case zy121015 => (intro w hSw; (try dsimp only at hSw); go_simp; try with_reducible rfl)
          change wpAnyH _ _ _ _ _ _ _ (Act.put _ (some 26) _) _
          simp only [Act.put, List.setIfInBounds_toArray, List.set_cons_zero, List.set_cons_succ]
          refine wpAnyH_ready (rs := [5]) (by kernel_rfl) (by simp) (AllReadyH.cons rfl (fun K hK => ?_) AllReadyH.nil)
          go_simp
          go_at_call 41
          refine (CIN.out _).mono ?_
          rintro e w4 ⟨rfl, hb4d⟩
          have hb4 : Below w3.heap.size w3 w4 := below_drew_l hb4d
          clear hb4d
          have KF4 := Lib.hid (KF3.out.below hb4 KF3.out.lt)
          have KZ4 := Lib.hid (KZ3.out.below hb4 KZ3.out.lt)
          have KX4 := Lib.hid (KX3.out.below hb4 KX3.out.lt)
          have HO4 := Lib.hid (HO3.out.below hb4)
          have HB4 : Hid (Below w.heap.size w w4) := HB3.out.trans (hb4.mono HB3.out.size)
          have hz4 : w3.heap.size ≤ w4.heap.size := hb4.size
          have HBIT4 : Hid (w4.cell? ⟨bb, ob + k, none⟩ = some (.bool true)) := (hb4.cell (p := ⟨bb, ob + k, none⟩) (World.block_lt_of_cell? _ _ HBIT3.out)).trans HBIT3.out
          clear hb4
          refine hK.out _ _ (⟨feed_cells KF4.out, HBIT4.out⟩) (fun hHeld => ?_)
          clear hK K
          (try simp only [Act.put, List.setIfInBounds_toArray, List.set_cons_zero, List.set_cons_succ])
          refine wpAnyH_take (i := 6) (v := ?zv121016) rfl (by kernel_rfl) (by kernel_rfl) (by kernel_rfl) (fun _ _ _ h => h) (Or.inl ⟨by kernel_rfl, ?zy121016⟩) (by assumption) ?zr121016
          case zy121016 => (intro w hSw; (try dsimp only at hSw); go_simp; try with_reducible rfl)
          change wpAnyH _ _ _ _ _ _ _ (Act.put _ (some 28) _) _
          simp only [Act.put, List.setIfInBounds_toArray, List.set_cons_zero, List.set_cons_succ]
          refine wpAnyH_take (i := 7) (v := ?zv121017) rfl (by kernel_rfl) (by kernel_rfl) (by kernel_rfl) (fun _ _ _ h => h) (Or.inl ⟨by kernel_rfl, ?zy121017⟩) (by assumption) ?zr121017
          case zy121017 => (intro w hSw; (try dsimp only at hSw); go_simp; try with_reducible rfl)
          change wpAnyH _ _ _ _ _ _ _ (Act.put _ (some 29) _) _
          simp only [Act.put, List.setIfInBounds_toArray, List.set_cons_zero, List.set_cons_succ]
          refine wpAnyH_take (i := 8) (v := ?zv121018) rfl (by kernel_rfl) (by kernel_rfl) (by kernel_rfl) (fun _ _ _ h => h) (Or.inl ⟨by kernel_rfl, ?zy121018⟩) (by assumption) ?zr121018
          case zy121018 => (intro w hSw; (try dsimp only at hSw); go_simp; try with_reducible rfl)
          change wpAnyH _ _ _ _ _ _ _ (Act.put _ (some 30) _) _
          simp only [Act.put, List.setIfInBounds_toArray, List.set_cons_zero, List.set_cons_succ]
          refine wpAnyH_take (i := 9) (v := ?zv121019) rfl (by kernel_rfl) (by kernel_rfl) (by kernel_rfl) (fun _ _ _ h => h) (Or.inl ⟨by kernel_rfl, ?zy121019⟩) (by assumption) ?zr121019
          case zy121019 => (intro w hSw; (try dsimp only at hSw); go_simp; try with_reducible rfl)
          change wpAnyH _ _ _ _ _ _ _ (Act.put _ (some 31) _) _
          simp only [Act.put, List.setIfInBounds_toArray, List.set_cons_zero, List.set_cons_succ]
          refine wpAnyH_take (i := 10) (v := ?zv121020) rfl (by kernel_rfl) (by kernel_rfl) (by kernel_rfl) (fun _ _ _ h => h) (Or.inl ⟨by kernel_rfl, ?zy121020⟩) (by assumption) ?zr121020
          case zy121020 => (intro w hSw; (try dsimp only at hSw); go_simp; try with_reducible rfl)
          change wpAnyH _ _ _ _ _ _ _ (Act.put _ (some 32) _) _
          simp only [Act.put, List.setIfInBounds_toArray, List.set_cons_zero, List.set_cons_succ]
          refine wpAnyH_take (i := 11) (v := ?zv121021) rfl (by kernel_rfl) (by kernel_rfl) (by kernel_rfl) (fun _ _ _ h => h) (Or.inl ⟨by kernel_rfl, ?zy121021⟩) (by assumption) ?zr121021
          case zy121021 => (intro w hSw; (try dsimp only at hSw); go_simp; try with_reducible rfl)
          change wpAnyH _ _ _ _ _ _ _ (Act.put _ (some 33) _) _
          simp only [Act.put, List.setIfInBounds_toArray, List.set_cons_zero, List.set_cons_succ]
          refine wpAnyH_take (i := 12) (v := ?zv121022) rfl (by kernel_rfl) (by kernel_rfl) (by kernel_rfl) (fun _ _ _ h => h) (Or.inl ⟨by kernel_rfl, ?zy121022⟩) (by assumption) ?zr121022
          case zy121022 => (intro w hSw; (try dsimp only at hSw); go_simp; try with_reducible rfl)
          change wpAnyH _ _ _ _ _ _ _ (Act.put _ (some 34) _) _
          simp only [Act.put, List.setIfInBounds_toArray, List.set_cons_zero, List.set_cons_succ]
          refine wpAnyH_take (i := 13) (v := ?zv121023) rfl (by kernel_rfl) (by kernel_rfl) (by kernel_rfl) (fun _ _ _ h => h) (Or.inl ⟨by kernel_rfl, ?zy121023⟩) (by assumption) ?zr121023
          case zy121023 => (intro w hSw; (try dsimp only at hSw); go_simp; try with_reducible rfl)
          change wpAnyH _ _ _ _ _ _ _ (Act.put _ (some 35) _) _
          simp only [Act.put, List.setIfInBounds_toArray, List.set_cons_zero, List.set_cons_succ]
          refine wpAnyH_take (i := 14) (v := ?zv121024) rfl (by kernel_rfl) (by kernel_rfl) (by kernel_rfl) (fun _ _ _ h => h) (Or.inl ⟨by kernel_rfl, ?zy121024⟩) (by assumption) ?zr121024
          case zy121024 => (intro w hSw; (try dsimp only at hSw); go_simp; try with_reducible rfl)
          change wpAnyH _ _ _ _ _ _ _ (Act.put _ (some 36) _) _
          simp only [Act.put, List.setIfInBounds_toArray, List.set_cons_zero, List.set_cons_succ]
          refine wpAnyH_take (i := 15) (v := undef) rfl (by kernel_rfl) (by kernel_rfl) (by kernel_rfl) (fun _ _ _ h => h) (Or.inr ⟨by kernel_rfl, rfl⟩) (by assumption) ?_
          change wpAnyH _ _ _ _ _ _ _ (Act.put _ (some 37) _) _
          simp only [Act.put, List.setIfInBounds_toArray, List.set_cons_zero, List.set_cons_succ]
          refine wpAnyH_take (i := 16) (v := undef) rfl (by kernel_rfl) (by kernel_rfl) (by kernel_rfl) (fun _ _ _ h => h) (Or.inr ⟨by kernel_rfl, rfl⟩) (by assumption) ?_
          change wpAnyH _ _ _ _ _ _ _ (Act.put _ (some 38) _) _
          simp only [Act.put, List.setIfInBounds_toArray, List.set_cons_zero, List.set_cons_succ]
          refine wpAnyH_take (i := 17) (v := undef) rfl (by kernel_rfl) (by kernel_rfl) (by kernel_rfl) (fun _ _ _ h => h) (Or.inr ⟨by kernel_rfl, rfl⟩) (by assumption) ?_
          change wpAnyH _ _ _ _ _ _ _ (Act.put _ (some 39) _) _
          simp only [Act.put, List.setIfInBounds_toArray, List.set_cons_zero, List.set_cons_succ]
          refine wpAnyH_take (i := 18) (v := undef) rfl (by kernel_rfl) (by kernel_rfl) (by kernel_rfl) (fun _ _ _ h => h) (Or.inr ⟨by kernel_rfl, rfl⟩) (by assumption) ?_
          change wpAnyH _ _ _ _ _ _ _ (Act.put _ (some 40) _) _
          simp only [Act.put, List.setIfInBounds_toArray, List.set_cons_zero, List.set_cons_succ]
          refine wpAnyH_take (i := 19) (v := undef) rfl (by kernel_rfl) (by kernel_rfl) (by kernel_rfl) (fun _ _ _ h => h) (Or.inr ⟨by kernel_rfl, rfl⟩) (by assumption) ?_
          change wpAnyH _ _ _ _ _ _ _ (Act.put _ (some 41) _) _
          simp only [Act.put, List.setIfInBounds_toArray, List.set_cons_zero, List.set_cons_succ]
          refine wpAnyH_take (i := 20) (v := undef) rfl (by kernel_rfl) (by kernel_rfl) (by kernel_rfl) (fun _ _ _ h => h) (Or.inr ⟨by kernel_rfl, rfl⟩) (by assumption) ?_
          change wpAnyH _ _ _ _ _ _ _ (Act.put _ (some 42) _) _
          simp only [Act.put, List.setIfInBounds_toArray, List.set_cons_zero, List.set_cons_succ]
          refine wpAnyH_take (i := 21) (v := undef) rfl (by kernel_rfl) (by kernel_rfl) (by kernel_rfl) (fun _ _ _ h => h) (Or.inr ⟨by kernel_rfl, rfl⟩) (by assumption) ?_
          change wpAnyH _ _ _ _ _ _ _ (Act.put _ (some 43) _) _
          simp only [Act.put, List.setIfInBounds_toArray, List.set_cons_zero, List.set_cons_succ]
          refine wpAnyH_take (i := 22) (v := undef) rfl (by kernel_rfl) (by kernel_rfl) (by kernel_rfl) (fun _ _ _ h => h) (Or.inr ⟨by kernel_rfl, rfl⟩) (by assumption) ?_
          change wpAnyH _ _ _ _ _ _ _ (Act.put _ (some 44) _) _
          simp only [Act.put, List.setIfInBounds_toArray, List.set_cons_zero, List.set_cons_succ]
          refine wpAnyH_take (i := 23) (v := undef) rfl (by kernel_rfl) (by kernel_rfl) (by kernel_rfl) (fun _ _ _ h => h) (Or.inr ⟨by kernel_rfl, rfl⟩) (by assumption) ?_
          change wpAnyH _ _ _ _ _ _ _ (Act.put _ (some 45) _) _
          simp only [Act.put, List.setIfInBounds_toArray, List.set_cons_zero, List.set_cons_succ]
          refine wpAnyH_take (i := 24) (v := undef) rfl (by kernel_rfl) (by kernel_rfl) (by kernel_rfl) (fun _ _ _ h => h) (Or.inr ⟨by kernel_rfl, rfl⟩) (by assumption) ?_
          change wpAnyH _ _ _ _ _ _ _ (Act.put _ (some 46) _) _
          simp only [Act.put, List.setIfInBounds_toArray, List.set_cons_zero, List.set_cons_succ]
          refine wpAnyH_take (i := 25) (v := undef) rfl (by kernel_rfl) (by kernel_rfl) (by kernel_rfl) (fun _ _ _ h => h) (Or.inr ⟨by kernel_rfl, rfl⟩) (by assumption) ?_
          change wpAnyH _ _ _ _ _ _ _ (Act.put _ (some 47) _) _
          simp only [Act.put, List.setIfInBounds_toArray, List.set_cons_zero, List.set_cons_succ]
          refine wpAnyH_take (i := 26) (v := undef) rfl (by kernel_rfl) (by kernel_rfl) (by kernel_rfl) (fun _ _ _ h => h) (Or.inr ⟨by kernel_rfl, rfl⟩) (by assumption) ?_
          change wpAnyH _ _ _ _ _ _ _ (Act.put _ (some 48) _) _
          simp only [Act.put, List.setIfInBounds_toArray, List.set_cons_zero, List.set_cons_succ]
          refine wpAnyH_take (i := 27) (v := ?zv121025) rfl (by kernel_rfl) (by kernel_rfl) (by kernel_rfl) (fun _ _ _ h => h) (Or.inl ⟨by kernel_rfl, ?zy121025⟩) (by assumption) ?zr121025
          case zy121025 => (intro w hSw; (try dsimp only at hSw); go_simp; try with_reducible rfl)
          change wpAnyH _ _ _ _ _ _ _ (Act.put _ (some 49) _) _
          simp only [Act.put, List.setIfInBounds_toArray, List.set_cons_zero, List.set_cons_succ]
          refine wpAnyH_done (by kernel_rfl) ?_ _
          obtain ⟨x0, x1, x2, x3, x4, x5⟩ := feed_cells KX4.out
          obtain ⟨r0, r1, r2, r3, r4, r5⟩ := feed_cells KZ4.out
          have rf := blk_frozen KZ4.out
          go_wp2
          obtain ⟨Y, HY⟩ : ∃ Y, Hid (((((((w4.setCell ⟨gz, 0, none⟩ (.int .i64 p)).setCell ⟨gz, 1, none⟩ (.int .i64 (nb : Int))).setCell ⟨gz, 2, none⟩ (.int .i64 d)).setCell ⟨gz, 3, none⟩ (.int .i64 s)).setCell ⟨gz, 4, none⟩ (.slice X1 nb e1)).setCell ⟨gz, 5, none⟩ (.slice X2 nb e2)) = Y) := ⟨_, rfl⟩
          have HBY : Hid (Below w.heap.size w Y) := by rw [← HY.out]; exact below_six HB4.out (by omega) _ _ _ _ _ _
          have KRY : Hid (Blk Y gz 28 (feedC p (nb : Int) d s X1 nb e1 X2 nb e2)) := by rw [← HY.out]; exact blk_six KZ4.out _ _ _ _ _ _
          have hoF : OwnFeed Y w.heap.size X1 e1 X2 e2 bs hs := by rw [← HY.out]; exact (own_six HO4.out KZ4.out _ _ _ _ _ _).base_le (by have := HB1.out.size; omega)
          rw [HY.out]
          obtain ⟨y0, y1, y2, y3, y4, y5⟩ := feed_cells KRY.out
          exact bodyPost_ret (v := .tuple #[feedV p (nb : Int) d s X1 nb e1 X2 nb e2, .bool false]) (by simp [results, Tryd.results11, go_sem, y0, y1, y2, y3, y4, y5]) rfl ⟨_, _, _, _, by rw [HPR.out, HPK.out]; show _ = Ending.returned (.tuple #[feedV p (nb : Int) d s X1 bs.length e1 X2 hs.length e2, .bool false]); rw [HNB.out, HNH.out], by rw [HPR.out]; exact hoF, HBY.out⟩
        | false =>
          obtain ⟨tz, HTZ⟩ : ∃ v, Hid (textOr t = v) := ⟨_, rfl⟩
          obtain ⟨tok, HTO⟩ : ∃ v, Hid (treeOkB d (nb : Int) (k : Int) tz zs = v) := ⟨_, rfl⟩
          have CTX : Hid (∀ U, Calls Tryd.prog 43 #[.string t] U fun e w' => e = .returned (.int .i64 tz) ∧ Below U.heap.size U w') := fun U => (stext1_any t U h8).mono fun e w' ⟨he, hw⟩ => ⟨by rw [he, ← HTZ.out, textOr_y h8], by subst hw; exact Below.refl _ _⟩
          have CTR : Hid (∀ U, Below w.heap.size w U → Calls Tryd.prog 42 #[.int .i64 d, .int .i64 (nb : Int), .int .i64 (k : Int), .int .i64 tz, .slice X nz cz] U fun e w' => e = .returned (.bool tok) ∧ Below U.heap.size U w') := fun U hU => by
            have h := stcheck_any d (nb : Int) (k : Int) tz zs X cz U ((HG.out.below hU (Nat.le_refl _)).more hU.size) HMZ.out (by omega) (by omega)
            rw [HNZ.out, HTO.out] at h
            exact h.mono fun e w' ⟨he, hw⟩ => ⟨he, by subst hw; exact Below.refl _ _⟩
          cases tok with
          | false =>
            have HPK : Hid (putOk ⟨p, (nb : Int), d, s, bs, hs⟩ (k : Int) t zs = false) := putOk_no fun h => by
              have h4 := h.2.2.2.1
              simp only at h4
              rw [HTZ.out, HTO.out] at h4; cases h4
            have HPR : Hid (putR ⟨p, (nb : Int), d, s, bs, hs⟩ (k : Int) t zs = ⟨p, (nb : Int), d, s, bs, hs⟩) := putR_no hO h8 HPK.out
            clear hO h8
            go_enter Tryd.func11, Tryd.ntmps11
            go_upto_region 1 with fail
            rw [HW.out]
            go_wp2_with fail
            refine (CV.out _ HB.out).mono ?_
            rintro e w1 ⟨rfl, hb1⟩
            have KF1 := Lib.hid (KF.out.below hb1 KF.out.lt)
            have KZ1 := Lib.hid (KZ.out.below hb1 KZ.out.lt)
            have HB1 : Hid (Below w.heap.size w w1) := HB.out.trans (hb1.mono HB.out.size)
            have hz1 : W.heap.size ≤ w1.heap.size := hb1.size
            clear hb1 k0 k1 k2 k3 k4 k5
            obtain ⟨k0, k1, k2, k3, k4, k5⟩ := feed_cells KF1.out
            go_wp2_with fail
            refine (CC2.out _ HB1.out).mono ?_
            rintro e w2 ⟨X1, e1, X2, e2, rfl, ho2, hb2⟩
            rw [HNB.out, HNH.out]
            obtain ⟨w3, HW3⟩ : ∃ V, Hid (w2.alloc (.cells (feedC p (nb : Int) d s X1 nb e1 X2 nb e2) 28) = V) := ⟨_, rfl⟩
            have hb3 : Below w2.heap.size w2 w3 := by rw [← HW3.out]; exact (Below.refl _ _).alloc (Nat.le_refl _) _
            have hz12 : w1.heap.size ≤ w2.heap.size := hb2.size
            have hlx : ∀ g, X1 = some ⟨g, 0, none⟩ → w1.heap.size ≤ g ∧ g < w2.heap.size := owns_lt ho2.strs
            have hly : ∀ g, X2 = some ⟨g, 0, none⟩ → w1.heap.size ≤ g ∧ g < w2.heap.size := ownb_lt ho2.bits
            have hxy : ∀ g g', X1 = some ⟨g, 0, none⟩ → X2 = some ⟨g', 0, none⟩ → g ≠ g' := rows_part ho2.strs ho2.bits
            have KF3 := Lib.hid ((KF1.out.below hb2 KF1.out.lt).below hb3 (KF1.out.below hb2 KF1.out.lt).lt)
            have KZ3 := Lib.hid ((KZ1.out.below hb2 KZ1.out.lt).below hb3 (KZ1.out.below hb2 KZ1.out.lt).lt)
            have KX3 : Hid (Blk w3 w2.heap.size 28 (feedC p (nb : Int) d s X1 nb e1 X2 nb e2)) := by rw [← HW3.out]; exact Blk.new w2 _ _
            have HO3 := Lib.hid (ho2.below hb3)
            have HB2 : Hid (Below w.heap.size w w2) := HB1.out.trans (hb2.mono HB1.out.size)
            have HB3 : Hid (Below w.heap.size w w3) := HB2.out.trans (hb3.mono HB2.out.size)
            have hz3 : w2.heap.size < w3.heap.size := KX3.out.lt
            clear hb2 hb3 ho2 k0 k1 k2 k3 k4 k5
            go_upto_region 4 with fail
            rw [HW3.out]
            have HBIT3 := Lib.hid (HBITW.out _ HB3.out)
            (try go_wp2_with fail)
            refine wp_region_held_drew (S := (fun w' => (w'.cell? ⟨w.heap.size, 0, none⟩ = some (.int .i64 p) ∧ w'.cell? ⟨w.heap.size, 1, none⟩ = some (.int .i64 (nb : Int)) ∧ w'.cell? ⟨w.heap.size, 2, none⟩ = some (.int .i64 d) ∧ w'.cell? ⟨w.heap.size, 3, none⟩ = some (.int .i64 s) ∧ w'.cell? ⟨w.heap.size, 4, none⟩ = some (.slice A1 nb c1) ∧ w'.cell? ⟨w.heap.size, 5, none⟩ = some (.slice (some ⟨bb, ob, none⟩) nb c2)) ∧ w'.cell? ⟨bb, ob + k, none⟩ = some (.bool false))) (by kernel_rfl) (⟨feed_cells KF3.out, HBIT3.out⟩) (fun hHeld => ?_)
            refine wpAnyH_take (i := 0) (v := ?zv121026) rfl (by kernel_rfl) (by kernel_rfl) (by kernel_rfl) (fun _ _ _ h => h) (Or.inl ⟨by kernel_rfl, ?zy121026⟩) (by assumption) ?zr121026
            case zy121026 => (intro w hSw; (try dsimp only at hSw); go_simp; try with_reducible rfl)
            change wpAnyH _ _ _ _ _ _ _ (Act.put _ (some 22) _) _
            simp only [Act.put, List.setIfInBounds_toArray, List.set_cons_zero, List.set_cons_succ]
            refine wpAnyH_take (i := 1) (v := ?zv121027) rfl (by kernel_rfl) (by kernel_rfl) (by kernel_rfl) (fun _ _ _ h => h) (Or.inl ⟨by kernel_rfl, ?zy121027⟩) (by assumption) ?zr121027
            case zy121027 => (intro w hSw; (try dsimp only at hSw); go_simp; try with_reducible rfl)
            change wpAnyH _ _ _ _ _ _ _ (Act.put _ (some 23) _) _
            simp only [Act.put, List.setIfInBounds_toArray, List.set_cons_zero, List.set_cons_succ]
            refine wpAnyH_take (i := 2) (v := ?zv121028) rfl (by kernel_rfl) (by kernel_rfl) (by kernel_rfl) (fun _ _ _ h => h) (Or.inl ⟨by kernel_rfl, ?zy121028⟩) (by assumption) ?zr121028
            case zy121028 => (intro w hSw; (try dsimp only at hSw); go_simp; try with_reducible rfl)
            change wpAnyH _ _ _ _ _ _ _ (Act.put _ (some 24) _) _
            simp only [Act.put, List.setIfInBounds_toArray, List.set_cons_zero, List.set_cons_succ]
            refine wpAnyH_take (i := 3) (v := ?zv121029) rfl (by kernel_rfl) (by kernel_rfl) (by kernel_rfl) (fun _ _ _ h => h) (Or.inl ⟨by kernel_rfl, ?zy121029⟩) (by assumption) ?zr121029
            case zy121029 => (intro w hSw; (try dsimp only at hSw); go_simp; try with_reducible rfl)
            change wpAnyH _ _ _ _ _ _ _ (Act.put _ (some 25) _) _
            simp only [Act.put, List.setIfInBounds_toArray, List.set_cons_zero, List.set_cons_succ]
            refine wpAnyH_take (i := 4) (v := ?zv121030) rfl (by kernel_rfl) (by kernel_rfl) (by kernel_rfl) (fun _ _ _ h => h) (Or.inl ⟨by kernel_rfl, ?zy121030⟩) (by assumption) ?zr121030
            case zy121030 => (intro w hSw; (try dsimp only at hSw); go_simp; try with_reducible rfl)
            change wpAnyH _ _ _ _ _ _ _ (Act.put _ (some 26) _) _
            simp only [Act.put, List.setIfInBounds_toArray, List.set_cons_zero, List.set_cons_succ]
            refine wpAnyH_ready (rs := [5]) (by kernel_rfl) (by simp) (AllReadyH.cons rfl (fun K hK => ?_) AllReadyH.nil)
            go_simp
            go_at_call 41
            refine (CIN.out _).mono ?_
            rintro e w4 ⟨rfl, hb4d⟩
            have hb4 : Below w3.heap.size w3 w4 := below_drew_l hb4d
            clear hb4d
            have KF4 := Lib.hid (KF3.out.below hb4 KF3.out.lt)
            have KZ4 := Lib.hid (KZ3.out.below hb4 KZ3.out.lt)
            have KX4 := Lib.hid (KX3.out.below hb4 KX3.out.lt)
            have HO4 := Lib.hid (HO3.out.below hb4)
            have HB4 : Hid (Below w.heap.size w w4) := HB3.out.trans (hb4.mono HB3.out.size)
            have hz4 : w3.heap.size ≤ w4.heap.size := hb4.size
            have HBIT4 : Hid (w4.cell? ⟨bb, ob + k, none⟩ = some (.bool false)) := (hb4.cell (p := ⟨bb, ob + k, none⟩) (World.block_lt_of_cell? _ _ HBIT3.out)).trans HBIT3.out
            clear hb4
            refine hK.out _ _ (⟨feed_cells KF4.out, HBIT4.out⟩) (fun hHeld => ?_)
            clear hK K
            (try simp only [Act.put, List.setIfInBounds_toArray, List.set_cons_zero, List.set_cons_succ])
            refine wpAnyH_take (i := 6) (v := ?zv121031) rfl (by kernel_rfl) (by kernel_rfl) (by kernel_rfl) (fun _ _ _ h => h) (Or.inl ⟨by kernel_rfl, ?zy121031⟩) (by assumption) ?zr121031
            case zy121031 => (intro w hSw; (try dsimp only at hSw); go_simp; try with_reducible rfl)
            change wpAnyH _ _ _ _ _ _ _ (Act.put _ (some 28) _) _
            simp only [Act.put, List.setIfInBounds_toArray, List.set_cons_zero, List.set_cons_succ]
            refine wpAnyH_take (i := 7) (v := ?zv121032) rfl (by kernel_rfl) (by kernel_rfl) (by kernel_rfl) (fun _ _ _ h => h) (Or.inl ⟨by kernel_rfl, ?zy121032⟩) (by assumption) ?zr121032
            case zy121032 => (intro w hSw; (try dsimp only at hSw); go_simp; try with_reducible rfl)
            change wpAnyH _ _ _ _ _ _ _ (Act.put _ (some 29) _) _
            simp only [Act.put, List.setIfInBounds_toArray, List.set_cons_zero, List.set_cons_succ]
            refine wpAnyH_take (i := 8) (v := ?zv121033) rfl (by kernel_rfl) (by kernel_rfl) (by kernel_rfl) (fun _ _ _ h => h) (Or.inl ⟨by kernel_rfl, ?zy121033⟩) (by assumption) ?zr121033
            case zy121033 => (intro w hSw; (try dsimp only at hSw); go_simp; try with_reducible rfl)
            change wpAnyH _ _ _ _ _ _ _ (Act.put _ (some 30) _) _
            simp only [Act.put, List.setIfInBounds_toArray, List.set_cons_zero, List.set_cons_succ]
            refine wpAnyH_take (i := 9) (v := ?zv121034) rfl (by kernel_rfl) (by kernel_rfl) (by kernel_rfl) (fun _ _ _ h => h) (Or.inl ⟨by kernel_rfl, ?zy121034⟩) (by assumption) ?zr121034
            case zy121034 => (intro w hSw; (try dsimp only at hSw); go_simp; try with_reducible rfl)
            change wpAnyH _ _ _ _ _ _ _ (Act.put _ (some 31) _) _
            simp only [Act.put, List.setIfInBounds_toArray, List.set_cons_zero, List.set_cons_succ]
            refine wpAnyH_take (i := 10) (v := ?zv121035) rfl (by kernel_rfl) (by kernel_rfl) (by kernel_rfl) (fun _ _ _ h => h) (Or.inl ⟨by kernel_rfl, ?zy121035⟩) (by assumption) ?zr121035
            case zy121035 => (intro w hSw; (try dsimp only at hSw); go_simp; try with_reducible rfl)
            change wpAnyH _ _ _ _ _ _ _ (Act.put _ (some 32) _) _
            simp only [Act.put, List.setIfInBounds_toArray, List.set_cons_zero, List.set_cons_succ]
            refine wpAnyH_take (i := 11) (v := ?zv121036) rfl (by kernel_rfl) (by kernel_rfl) (by kernel_rfl) (fun _ _ _ h => h) (Or.inl ⟨by kernel_rfl, ?zy121036⟩) (by assumption) ?zr121036
            case zy121036 => (intro w hSw; (try dsimp only at hSw); go_simp; try with_reducible rfl)
            change wpAnyH _ _ _ _ _ _ _ (Act.put _ (some 33) _) _
            simp only [Act.put, List.setIfInBounds_toArray, List.set_cons_zero, List.set_cons_succ]
            refine wpAnyH_take (i := 12) (v := ?zv121037) rfl (by kernel_rfl) (by kernel_rfl) (by kernel_rfl) (fun _ _ _ h => h) (Or.inl ⟨by kernel_rfl, ?zy121037⟩) (by assumption) ?zr121037
            case zy121037 => (intro w hSw; (try dsimp only at hSw); go_simp; try with_reducible rfl)
            change wpAnyH _ _ _ _ _ _ _ (Act.put _ (some 34) _) _
            simp only [Act.put, List.setIfInBounds_toArray, List.set_cons_zero, List.set_cons_succ]
            refine wpAnyH_take (i := 13) (v := ?zv121038) rfl (by kernel_rfl) (by kernel_rfl) (by kernel_rfl) (fun _ _ _ h => h) (Or.inl ⟨by kernel_rfl, ?zy121038⟩) (by assumption) ?zr121038
            case zy121038 => (intro w hSw; (try dsimp only at hSw); go_simp; try with_reducible rfl)
            change wpAnyH _ _ _ _ _ _ _ (Act.put _ (some 35) _) _
            simp only [Act.put, List.setIfInBounds_toArray, List.set_cons_zero, List.set_cons_succ]
            refine wpAnyH_take (i := 14) (v := ?zv121039) rfl (by kernel_rfl) (by kernel_rfl) (by kernel_rfl) (fun _ _ _ h => h) (Or.inl ⟨by kernel_rfl, ?zy121039⟩) (by assumption) ?zr121039
            case zy121039 => (intro w hSw; (try dsimp only at hSw); go_simp; try with_reducible rfl)
            change wpAnyH _ _ _ _ _ _ _ (Act.put _ (some 36) _) _
            simp only [Act.put, List.setIfInBounds_toArray, List.set_cons_zero, List.set_cons_succ]
            refine wpAnyH_take (i := 15) (v := ?zv121040) rfl (by kernel_rfl) (by kernel_rfl) (by kernel_rfl) (fun _ _ _ h => h) (Or.inl ⟨by kernel_rfl, ?zy121040⟩) (by assumption) ?zr121040
            case zy121040 => (intro w hSw; (try dsimp only at hSw); go_simp; try with_reducible rfl)
            change wpAnyH _ _ _ _ _ _ _ (Act.put _ (some 37) _) _
            simp only [Act.put, List.setIfInBounds_toArray, List.set_cons_zero, List.set_cons_succ]
            refine wpAnyH_take (i := 16) (v := ?zv121041) rfl (by kernel_rfl) (by kernel_rfl) (by kernel_rfl) (fun _ _ _ h => h) (Or.inl ⟨by kernel_rfl, ?zy121041⟩) (by assumption) ?zr121041
            case zy121041 => (intro w hSw; (try dsimp only at hSw); go_simp; try with_reducible rfl)
            change wpAnyH _ _ _ _ _ _ _ (Act.put _ (some 38) _) _
            simp only [Act.put, List.setIfInBounds_toArray, List.set_cons_zero, List.set_cons_succ]
            refine wpAnyH_take (i := 17) (v := ?zv121042) rfl (by kernel_rfl) (by kernel_rfl) (by kernel_rfl) (fun _ _ _ h => h) (Or.inl ⟨by kernel_rfl, ?zy121042⟩) (by assumption) ?zr121042
            case zy121042 => (intro w hSw; (try dsimp only at hSw); go_simp; try with_reducible rfl)
            change wpAnyH _ _ _ _ _ _ _ (Act.put _ (some 39) _) _
            simp only [Act.put, List.setIfInBounds_toArray, List.set_cons_zero, List.set_cons_succ]
            refine wpAnyH_take (i := 18) (v := ?zv121043) rfl (by kernel_rfl) (by kernel_rfl) (by kernel_rfl) (fun _ _ _ h => h) (Or.inl ⟨by kernel_rfl, ?zy121043⟩) (by assumption) ?zr121043
            case zy121043 => (intro w hSw; (try dsimp only at hSw); go_simp; try with_reducible rfl)
            change wpAnyH _ _ _ _ _ _ _ (Act.put _ (some 40) _) _
            simp only [Act.put, List.setIfInBounds_toArray, List.set_cons_zero, List.set_cons_succ]
            refine wpAnyH_take (i := 19) (v := ?zv121044) rfl (by kernel_rfl) (by kernel_rfl) (by kernel_rfl) (fun _ _ _ h => h) (Or.inl ⟨by kernel_rfl, ?zy121044⟩) (by assumption) ?zr121044
            case zy121044 => (intro w hSw; (try dsimp only at hSw); go_simp; try with_reducible rfl)
            change wpAnyH _ _ _ _ _ _ _ (Act.put _ (some 41) _) _
            simp only [Act.put, List.setIfInBounds_toArray, List.set_cons_zero, List.set_cons_succ]
            refine wpAnyH_take (i := 20) (v := ?zv121045) rfl (by kernel_rfl) (by kernel_rfl) (by kernel_rfl) (fun _ _ _ h => h) (Or.inl ⟨by kernel_rfl, ?zy121045⟩) (by assumption) ?zr121045
            case zy121045 => (intro w hSw; (try dsimp only at hSw); go_simp; try with_reducible rfl)
            change wpAnyH _ _ _ _ _ _ _ (Act.put _ (some 42) _) _
            simp only [Act.put, List.setIfInBounds_toArray, List.set_cons_zero, List.set_cons_succ]
            refine wpAnyH_take (i := 21) (v := ?zv121046) rfl (by kernel_rfl) (by kernel_rfl) (by kernel_rfl) (fun _ _ _ h => h) (Or.inl ⟨by kernel_rfl, ?zy121046⟩) (by assumption) ?zr121046
            case zy121046 => (intro w hSw; (try dsimp only at hSw); go_simp; try with_reducible rfl)
            change wpAnyH _ _ _ _ _ _ _ (Act.put _ (some 43) _) _
            simp only [Act.put, List.setIfInBounds_toArray, List.set_cons_zero, List.set_cons_succ]
            refine wpAnyH_take (i := 22) (v := ?zv121047) rfl (by kernel_rfl) (by kernel_rfl) (by kernel_rfl) (fun _ _ _ h => h) (Or.inl ⟨by kernel_rfl, ?zy121047⟩) (by assumption) ?zr121047
            case zy121047 => (intro w hSw; (try dsimp only at hSw); go_simp; try with_reducible rfl)
            change wpAnyH _ _ _ _ _ _ _ (Act.put _ (some 44) _) _
            simp only [Act.put, List.setIfInBounds_toArray, List.set_cons_zero, List.set_cons_succ]
            refine wpAnyH_take (i := 24) (v := ?zv121048) rfl (by kernel_rfl) (by kernel_rfl) (by kernel_rfl) (fun _ _ _ h => h) (Or.inl ⟨by kernel_rfl, ?zy121048⟩) (by assumption) ?zr121048
            case zy121048 => (intro w hSw; (try dsimp only at hSw); go_simp; try with_reducible rfl)
            change wpAnyH _ _ _ _ _ _ _ (Act.put _ (some 46) _) _
            simp only [Act.put, List.setIfInBounds_toArray, List.set_cons_zero, List.set_cons_succ]
            refine wpAnyH_ready (rs := [23]) (by kernel_rfl) (by simp) (AllReadyH.cons rfl (fun K hK => ?_) AllReadyH.nil)
            go_simp
            go_at_call 43
            refine (CTX.out _).mono ?_
            rintro e w5 ⟨rfl, hb5⟩
            have KF5 := Lib.hid (KF4.out.below hb5 KF4.out.lt)
            have KZ5 := Lib.hid (KZ4.out.below hb5 KZ4.out.lt)
            have KX5 := Lib.hid (KX4.out.below hb5 KX4.out.lt)
            have HO5 := Lib.hid (HO4.out.below hb5)
            have HB5 : Hid (Below w.heap.size w w5) := HB4.out.trans (hb5.mono HB4.out.size)
            have hz5 : w4.heap.size ≤ w5.heap.size := hb5.size
            have HBIT5 : Hid (w5.cell? ⟨bb, ob + k, none⟩ = some (.bool false)) := (hb5.cell (p := ⟨bb, ob + k, none⟩) (World.block_lt_of_cell? _ _ HBIT4.out)).trans HBIT4.out
            clear hb5
            refine hK.out _ _ (⟨feed_cells KF5.out, HBIT5.out⟩) (fun hHeld => ?_)
            clear hK K
            (try simp only [Act.put, List.setIfInBounds_toArray, List.set_cons_zero, List.set_cons_succ])
            refine wpAnyH_ready (rs := [25]) (by kernel_rfl) (by simp) (AllReadyH.cons rfl (fun K hK => ?_) AllReadyH.nil)
            go_simp
            go_at_call 42
            refine (CTR.out _ HB5.out).mono ?_
            rintro e w6 ⟨rfl, hb6⟩
            have KF6 := Lib.hid (KF5.out.below hb6 KF5.out.lt)
            have KZ6 := Lib.hid (KZ5.out.below hb6 KZ5.out.lt)
            have KX6 := Lib.hid (KX5.out.below hb6 KX5.out.lt)
            have HO6 := Lib.hid (HO5.out.below hb6)
            have HB6 : Hid (Below w.heap.size w w6) := HB5.out.trans (hb6.mono HB5.out.size)
            have hz6 : w5.heap.size ≤ w6.heap.size := hb6.size
            have HBIT6 : Hid (w6.cell? ⟨bb, ob + k, none⟩ = some (.bool false)) := (hb6.cell (p := ⟨bb, ob + k, none⟩) (World.block_lt_of_cell? _ _ HBIT5.out)).trans HBIT5.out
            clear hb6
            refine hK.out _ _ (⟨feed_cells KF6.out, HBIT6.out⟩) (fun hHeld => ?_)
            clear hK K
            (try simp only [Act.put, List.setIfInBounds_toArray, List.set_cons_zero, List.set_cons_succ])
            refine wpAnyH_take (i := 26) (v := ?zv121049) rfl (by kernel_rfl) (by kernel_rfl) (by kernel_rfl) (fun _ _ _ h => h) (Or.inl ⟨by kernel_rfl, ?zy121049⟩) (by assumption) ?zr121049
            case zy121049 => (intro w hSw; (try dsimp only at hSw); go_simp; try with_reducible rfl)
            change wpAnyH _ _ _ _ _ _ _ (Act.put _ (some 48) _) _
            simp only [Act.put, List.setIfInBounds_toArray, List.set_cons_zero, List.set_cons_succ]
            refine wpAnyH_take (i := 27) (v := ?zv121050) rfl (by kernel_rfl) (by kernel_rfl) (by kernel_rfl) (fun _ _ _ h => h) (Or.inl ⟨by kernel_rfl, ?zy121050⟩) (by assumption) ?zr121050
            case zy121050 => (intro w hSw; (try dsimp only at hSw); go_simp; try with_reducible rfl)
            change wpAnyH _ _ _ _ _ _ _ (Act.put _ (some 49) _) _
            simp only [Act.put, List.setIfInBounds_toArray, List.set_cons_zero, List.set_cons_succ]
            refine wpAnyH_done (by kernel_rfl) ?_ _
            obtain ⟨x0, x1, x2, x3, x4, x5⟩ := feed_cells KX6.out
            obtain ⟨r0, r1, r2, r3, r4, r5⟩ := feed_cells KZ6.out
            have rf := blk_frozen KZ6.out
            go_wp2
            obtain ⟨Y, HY⟩ : ∃ Y, Hid (((((((w6.setCell ⟨gz, 0, none⟩ (.int .i64 p)).setCell ⟨gz, 1, none⟩ (.int .i64 (nb : Int))).setCell ⟨gz, 2, none⟩ (.int .i64 d)).setCell ⟨gz, 3, none⟩ (.int .i64 s)).setCell ⟨gz, 4, none⟩ (.slice X1 nb e1)).setCell ⟨gz, 5, none⟩ (.slice X2 nb e2)) = Y) := ⟨_, rfl⟩
            have HBY : Hid (Below w.heap.size w Y) := by rw [← HY.out]; exact below_six HB6.out (by omega) _ _ _ _ _ _
            have KRY : Hid (Blk Y gz 28 (feedC p (nb : Int) d s X1 nb e1 X2 nb e2)) := by rw [← HY.out]; exact blk_six KZ6.out _ _ _ _ _ _
            have hoF : OwnFeed Y w.heap.size X1 e1 X2 e2 bs hs := by rw [← HY.out]; exact (own_six HO6.out KZ6.out _ _ _ _ _ _).base_le (by have := HB1.out.size; omega)
            rw [HY.out]
            obtain ⟨y0, y1, y2, y3, y4, y5⟩ := feed_cells KRY.out
            exact bodyPost_ret (v := .tuple #[feedV p (nb : Int) d s X1 nb e1 X2 nb e2, .bool false]) (by simp [results, Tryd.results11, go_sem, y0, y1, y2, y3, y4, y5]) rfl ⟨_, _, _, _, by rw [HPR.out, HPK.out]; show _ = Ending.returned (.tuple #[feedV p (nb : Int) d s X1 bs.length e1 X2 hs.length e2, .bool false]); rw [HNB.out, HNH.out], by rw [HPR.out]; exact hoF, HBY.out⟩
          | true =>
            obtain ⟨ok2, HK2⟩ : ∃ v, Hid (okB (putF ⟨p, (nb : Int), d, s, bs, hs⟩ k t) = v) := ⟨_, rfl⟩
            have HLB : Hid ((bs.set k t).length = nb) := by show _ = _; rw [List.length_set]; exact HNB.out
            have HLH : Hid ((hs.set k true).length = nb) := by show _ = _; rw [List.length_set]; exact HNH.out
            have HLT : Hid (lacksB ⟨p, (nb : Int), d, s, bs, hs⟩ (k : Int) = true) := by show _ = _; rw [HLK.out]; rfl
            have HO1 := Lib.hid hO
            have H8 := Lib.hid h8
            clear hO h8
            go_enter Tryd.func11, Tryd.ntmps11
            go_upto_region 1 with fail
            rw [HW.out]
            go_wp2_with fail
            refine (CV.out _ HB.out).mono ?_
            rintro e w1 ⟨rfl, hb1⟩
            have KF1 := Lib.hid (KF.out.below hb1 KF.out.lt)
            have KZ1 := Lib.hid (KZ.out.below hb1 KZ.out.lt)
            have HB1 : Hid (Below w.heap.size w w1) := HB.out.trans (hb1.mono HB.out.size)
            have hz1 : W.heap.size ≤ w1.heap.size := hb1.size
            clear hb1 k0 k1 k2 k3 k4 k5
            obtain ⟨k0, k1, k2, k3, k4, k5⟩ := feed_cells KF1.out
            go_wp2_with fail
            refine (CC2.out _ HB1.out).mono ?_
            rintro e w2 ⟨X1, e1, X2, e2, rfl, ho2, hb2⟩
            rw [HNB.out, HNH.out]
            obtain ⟨w3, HW3⟩ : ∃ V, Hid (w2.alloc (.cells (feedC p (nb : Int) d s X1 nb e1 X2 nb e2) 28) = V) := ⟨_, rfl⟩
            have hb3 : Below w2.heap.size w2 w3 := by rw [← HW3.out]; exact (Below.refl _ _).alloc (Nat.le_refl _) _
            have hz12 : w1.heap.size ≤ w2.heap.size := hb2.size
            have hlx : ∀ g, X1 = some ⟨g, 0, none⟩ → w1.heap.size ≤ g ∧ g < w2.heap.size := owns_lt ho2.strs
            have hly : ∀ g, X2 = some ⟨g, 0, none⟩ → w1.heap.size ≤ g ∧ g < w2.heap.size := ownb_lt ho2.bits
            have hxy : ∀ g g', X1 = some ⟨g, 0, none⟩ → X2 = some ⟨g', 0, none⟩ → g ≠ g' := rows_part ho2.strs ho2.bits
            have KF3 := Lib.hid ((KF1.out.below hb2 KF1.out.lt).below hb3 (KF1.out.below hb2 KF1.out.lt).lt)
            have KZ3 := Lib.hid ((KZ1.out.below hb2 KZ1.out.lt).below hb3 (KZ1.out.below hb2 KZ1.out.lt).lt)
            have KX3 : Hid (Blk w3 w2.heap.size 28 (feedC p (nb : Int) d s X1 nb e1 X2 nb e2)) := by rw [← HW3.out]; exact Blk.new w2 _ _
            have HO3 := Lib.hid (ho2.below hb3)
            have HB2 : Hid (Below w.heap.size w w2) := HB1.out.trans (hb2.mono HB1.out.size)
            have HB3 : Hid (Below w.heap.size w w3) := HB2.out.trans (hb3.mono HB2.out.size)
            have hz3 : w2.heap.size < w3.heap.size := KX3.out.lt
            clear hb2 hb3 ho2 k0 k1 k2 k3 k4 k5
            go_upto_region 4 with fail
            rw [HW3.out]
            have HBIT3 := Lib.hid (HBITW.out _ HB3.out)
            (try go_wp2_with fail)
            refine wp_region_held_drew (S := (fun w' => (w'.cell? ⟨w.heap.size, 0, none⟩ = some (.int .i64 p) ∧ w'.cell? ⟨w.heap.size, 1, none⟩ = some (.int .i64 (nb : Int)) ∧ w'.cell? ⟨w.heap.size, 2, none⟩ = some (.int .i64 d) ∧ w'.cell? ⟨w.heap.size, 3, none⟩ = some (.int .i64 s) ∧ w'.cell? ⟨w.heap.size, 4, none⟩ = some (.slice A1 nb c1) ∧ w'.cell? ⟨w.heap.size, 5, none⟩ = some (.slice (some ⟨bb, ob, none⟩) nb c2)) ∧ w'.cell? ⟨bb, ob + k, none⟩ = some (.bool false))) (by kernel_rfl) (⟨feed_cells KF3.out, HBIT3.out⟩) (fun hHeld => ?_)
            refine wpAnyH_take (i := 0) (v := ?zv121051) rfl (by kernel_rfl) (by kernel_rfl) (by kernel_rfl) (fun _ _ _ h => h) (Or.inl ⟨by kernel_rfl, ?zy121051⟩) (by assumption) ?zr121051
            case zy121051 => (intro w hSw; (try dsimp only at hSw); go_simp; try with_reducible rfl)
            change wpAnyH _ _ _ _ _ _ _ (Act.put _ (some 22) _) _
            simp only [Act.put, List.setIfInBounds_toArray, List.set_cons_zero, List.set_cons_succ]
            refine wpAnyH_take (i := 1) (v := ?zv121052) rfl (by kernel_rfl) (by kernel_rfl) (by kernel_rfl) (fun _ _ _ h => h) (Or.inl ⟨by kernel_rfl, ?zy121052⟩) (by assumption) ?zr121052
            case zy121052 => (intro w hSw; (try dsimp only at hSw); go_simp; try with_reducible rfl)
            change wpAnyH _ _ _ _ _ _ _ (Act.put _ (some 23) _) _
            simp only [Act.put, List.setIfInBounds_toArray, List.set_cons_zero, List.set_cons_succ]
            refine wpAnyH_take (i := 2) (v := ?zv121053) rfl (by kernel_rfl) (by kernel_rfl) (by kernel_rfl) (fun _ _ _ h => h) (Or.inl ⟨by kernel_rfl, ?zy121053⟩) (by assumption) ?zr121053
            case zy121053 => (intro w hSw; (try dsimp only at hSw); go_simp; try with_reducible rfl)
            change wpAnyH _ _ _ _ _ _ _ (Act.put _ (some 24) _) _
            simp only [Act.put, List.setIfInBounds_toArray, List.set_cons_zero, List.set_cons_succ]
            refine wpAnyH_take (i := 3) (v := ?zv121054) rfl (by kernel_rfl) (by kernel_rfl) (by kernel_rfl) (fun _ _ _ h => h) (Or.inl ⟨by kernel_rfl, ?zy121054⟩) (by assumption) ?zr121054
            case zy121054 => (intro w hSw; (try dsimp only at hSw); go_simp; try with_reducible rfl)
            change wpAnyH _ _ _ _ _ _ _ (Act.put _ (some 25) _) _
            simp only [Act.put, List.setIfInBounds_toArray, List.set_cons_zero, List.set_cons_succ]
            refine wpAnyH_take (i := 4) (v := ?zv121055) rfl (by kernel_rfl) (by kernel_rfl) (by kernel_rfl) (fun _ _ _ h => h) (Or.inl ⟨by kernel_rfl, ?zy121055⟩) (by assumption) ?zr121055
            case zy121055 => (intro w hSw; (try dsimp only at hSw); go_simp; try with_reducible rfl)
            change wpAnyH _ _ _ _ _ _ _ (Act.put _ (some 26) _) _
            simp only [Act.put, List.setIfInBounds_toArray, List.set_cons_zero, List.set_cons_succ]
            refine wpAnyH_ready (rs := [5]) (by kernel_rfl) (by simp) (AllReadyH.cons rfl (fun K hK => ?_) AllReadyH.nil)
            go_simp
            go_at_call 41
            refine (CIN.out _).mono ?_
            rintro e w4 ⟨rfl, hb4d⟩
            have hb4 : Below w3.heap.size w3 w4 := below_drew_l hb4d
            clear hb4d
            have KF4 := Lib.hid (KF3.out.below hb4 KF3.out.lt)
            have KZ4 := Lib.hid (KZ3.out.below hb4 KZ3.out.lt)
            have KX4 := Lib.hid (KX3.out.below hb4 KX3.out.lt)
            have HO4 := Lib.hid (HO3.out.below hb4)
            have HB4 : Hid (Below w.heap.size w w4) := HB3.out.trans (hb4.mono HB3.out.size)
            have hz4 : w3.heap.size ≤ w4.heap.size := hb4.size
            have HBIT4 : Hid (w4.cell? ⟨bb, ob + k, none⟩ = some (.bool false)) := (hb4.cell (p := ⟨bb, ob + k, none⟩) (World.block_lt_of_cell? _ _ HBIT3.out)).trans HBIT3.out
            clear hb4
            refine hK.out _ _ (⟨feed_cells KF4.out, HBIT4.out⟩) (fun hHeld => ?_)
            clear hK K
            (try simp only [Act.put, List.setIfInBounds_toArray, List.set_cons_zero, List.set_cons_succ])
            refine wpAnyH_take (i := 6) (v := ?zv121056) rfl (by kernel_rfl) (by kernel_rfl) (by kernel_rfl) (fun _ _ _ h => h) (Or.inl ⟨by kernel_rfl, ?zy121056⟩) (by assumption) ?zr121056
            case zy121056 => (intro w hSw; (try dsimp only at hSw); go_simp; try with_reducible rfl)
            change wpAnyH _ _ _ _ _ _ _ (Act.put _ (some 28) _) _
            simp only [Act.put, List.setIfInBounds_toArray, List.set_cons_zero, List.set_cons_succ]
            refine wpAnyH_take (i := 7) (v := ?zv121057) rfl (by kernel_rfl) (by kernel_rfl) (by kernel_rfl) (fun _ _ _ h => h) (Or.inl ⟨by kernel_rfl, ?zy121057⟩) (by assumption) ?zr121057
            case zy121057 => (intro w hSw; (try dsimp only at hSw); go_simp; try with_reducible rfl)
            change wpAnyH _ _ _ _ _ _ _ (Act.put _ (some 29) _) _
            simp only [Act.put, List.setIfInBounds_toArray, List.set_cons_zero, List.set_cons_succ]
            refine wpAnyH_take (i := 8) (v := ?zv121058) rfl (by kernel_rfl) (by kernel_rfl) (by kernel_rfl) (fun _ _ _ h => h) (Or.inl ⟨by kernel_rfl, ?zy121058⟩) (by assumption) ?zr121058
            case zy121058 => (intro w hSw; (try dsimp only at hSw); go_simp; try with_reducible rfl)
            change wpAnyH _ _ _ _ _ _ _ (Act.put _ (some 30) _) _
            simp only [Act.put, List.setIfInBounds_toArray, List.set_cons_zero, List.set_cons_succ]
            refine wpAnyH_take (i := 9) (v := ?zv121059) rfl (by kernel_rfl) (by kernel_rfl) (by kernel_rfl) (fun _ _ _ h => h) (Or.inl ⟨by kernel_rfl, ?zy121059⟩) (by assumption) ?zr121059
            case zy121059 => (intro w hSw; (try dsimp only at hSw); go_simp; try with_reducible rfl)
            change wpAnyH _ _ _ _ _ _ _ (Act.put _ (some 31) _) _
            simp only [Act.put, List.setIfInBounds_toArray, List.set_cons_zero, List.set_cons_succ]
            refine wpAnyH_take (i := 10) (v := ?zv121060) rfl (by kernel_rfl) (by kernel_rfl) (by kernel_rfl) (fun _ _ _ h => h) (Or.inl ⟨by kernel_rfl, ?zy121060⟩) (by assumption) ?zr121060
            case zy121060 => (intro w hSw; (try dsimp only at hSw); go_simp; try with_reducible rfl)
            change wpAnyH _ _ _ _ _ _ _ (Act.put _ (some 32) _) _
            simp only [Act.put, List.setIfInBounds_toArray, List.set_cons_zero, List.set_cons_succ]
            refine wpAnyH_take (i := 11) (v := ?zv121061) rfl (by kernel_rfl) (by kernel_rfl) (by kernel_rfl) (fun _ _ _ h => h) (Or.inl ⟨by kernel_rfl, ?zy121061⟩) (by assumption) ?zr121061
            case zy121061 => (intro w hSw; (try dsimp only at hSw); go_simp; try with_reducible rfl)
            change wpAnyH _ _ _ _ _ _ _ (Act.put _ (some 33) _) _
            simp only [Act.put, List.setIfInBounds_toArray, List.set_cons_zero, List.set_cons_succ]
            refine wpAnyH_take (i := 12) (v := ?zv121062) rfl (by kernel_rfl) (by kernel_rfl) (by kernel_rfl) (fun _ _ _ h => h) (Or.inl ⟨by kernel_rfl, ?zy121062⟩) (by assumption) ?zr121062
            case zy121062 => (intro w hSw; (try dsimp only at hSw); go_simp; try with_reducible rfl)
            change wpAnyH _ _ _ _ _ _ _ (Act.put _ (some 34) _) _
            simp only [Act.put, List.setIfInBounds_toArray, List.set_cons_zero, List.set_cons_succ]
            refine wpAnyH_take (i := 13) (v := ?zv121063) rfl (by kernel_rfl) (by kernel_rfl) (by kernel_rfl) (fun _ _ _ h => h) (Or.inl ⟨by kernel_rfl, ?zy121063⟩) (by assumption) ?zr121063
            case zy121063 => (intro w hSw; (try dsimp only at hSw); go_simp; try with_reducible rfl)
            change wpAnyH _ _ _ _ _ _ _ (Act.put _ (some 35) _) _
            simp only [Act.put, List.setIfInBounds_toArray, List.set_cons_zero, List.set_cons_succ]
            refine wpAnyH_take (i := 14) (v := ?zv121064) rfl (by kernel_rfl) (by kernel_rfl) (by kernel_rfl) (fun _ _ _ h => h) (Or.inl ⟨by kernel_rfl, ?zy121064⟩) (by assumption) ?zr121064
            case zy121064 => (intro w hSw; (try dsimp only at hSw); go_simp; try with_reducible rfl)
            change wpAnyH _ _ _ _ _ _ _ (Act.put _ (some 36) _) _
            simp only [Act.put, List.setIfInBounds_toArray, List.set_cons_zero, List.set_cons_succ]
            refine wpAnyH_take (i := 15) (v := ?zv121065) rfl (by kernel_rfl) (by kernel_rfl) (by kernel_rfl) (fun _ _ _ h => h) (Or.inl ⟨by kernel_rfl, ?zy121065⟩) (by assumption) ?zr121065
            case zy121065 => (intro w hSw; (try dsimp only at hSw); go_simp; try with_reducible rfl)
            change wpAnyH _ _ _ _ _ _ _ (Act.put _ (some 37) _) _
            simp only [Act.put, List.setIfInBounds_toArray, List.set_cons_zero, List.set_cons_succ]
            refine wpAnyH_take (i := 16) (v := ?zv121066) rfl (by kernel_rfl) (by kernel_rfl) (by kernel_rfl) (fun _ _ _ h => h) (Or.inl ⟨by kernel_rfl, ?zy121066⟩) (by assumption) ?zr121066
            case zy121066 => (intro w hSw; (try dsimp only at hSw); go_simp; try with_reducible rfl)
            change wpAnyH _ _ _ _ _ _ _ (Act.put _ (some 38) _) _
            simp only [Act.put, List.setIfInBounds_toArray, List.set_cons_zero, List.set_cons_succ]
            refine wpAnyH_take (i := 17) (v := ?zv121067) rfl (by kernel_rfl) (by kernel_rfl) (by kernel_rfl) (fun _ _ _ h => h) (Or.inl ⟨by kernel_rfl, ?zy121067⟩) (by assumption) ?zr121067
            case zy121067 => (intro w hSw; (try dsimp only at hSw); go_simp; try with_reducible rfl)
            change wpAnyH _ _ _ _ _ _ _ (Act.put _ (some 39) _) _
            simp only [Act.put, List.setIfInBounds_toArray, List.set_cons_zero, List.set_cons_succ]
            refine wpAnyH_take (i := 18) (v := ?zv121068) rfl (by kernel_rfl) (by kernel_rfl) (by kernel_rfl) (fun _ _ _ h => h) (Or.inl ⟨by kernel_rfl, ?zy121068⟩) (by assumption) ?zr121068
            case zy121068 => (intro w hSw; (try dsimp only at hSw); go_simp; try with_reducible rfl)
            change wpAnyH _ _ _ _ _ _ _ (Act.put _ (some 40) _) _
            simp only [Act.put, List.setIfInBounds_toArray, List.set_cons_zero, List.set_cons_succ]
            refine wpAnyH_take (i := 19) (v := ?zv121069) rfl (by kernel_rfl) (by kernel_rfl) (by kernel_rfl) (fun _ _ _ h => h) (Or.inl ⟨by kernel_rfl, ?zy121069⟩) (by assumption) ?zr121069
            case zy121069 => (intro w hSw; (try dsimp only at hSw); go_simp; try with_reducible rfl)
            change wpAnyH _ _ _ _ _ _ _ (Act.put _ (some 41) _) _
            simp only [Act.put, List.setIfInBounds_toArray, List.set_cons_zero, List.set_cons_succ]
            refine wpAnyH_take (i := 20) (v := ?zv121070) rfl (by kernel_rfl) (by kernel_rfl) (by kernel_rfl) (fun _ _ _ h => h) (Or.inl ⟨by kernel_rfl, ?zy121070⟩) (by assumption) ?zr121070
            case zy121070 => (intro w hSw; (try dsimp only at hSw); go_simp; try with_reducible rfl)
            change wpAnyH _ _ _ _ _ _ _ (Act.put _ (some 42) _) _
            simp only [Act.put, List.setIfInBounds_toArray, List.set_cons_zero, List.set_cons_succ]
            refine wpAnyH_take (i := 21) (v := ?zv121071) rfl (by kernel_rfl) (by kernel_rfl) (by kernel_rfl) (fun _ _ _ h => h) (Or.inl ⟨by kernel_rfl, ?zy121071⟩) (by assumption) ?zr121071
            case zy121071 => (intro w hSw; (try dsimp only at hSw); go_simp; try with_reducible rfl)
            change wpAnyH _ _ _ _ _ _ _ (Act.put _ (some 43) _) _
            simp only [Act.put, List.setIfInBounds_toArray, List.set_cons_zero, List.set_cons_succ]
            refine wpAnyH_take (i := 22) (v := ?zv121072) rfl (by kernel_rfl) (by kernel_rfl) (by kernel_rfl) (fun _ _ _ h => h) (Or.inl ⟨by kernel_rfl, ?zy121072⟩) (by assumption) ?zr121072
            case zy121072 => (intro w hSw; (try dsimp only at hSw); go_simp; try with_reducible rfl)
            change wpAnyH _ _ _ _ _ _ _ (Act.put _ (some 44) _) _
            simp only [Act.put, List.setIfInBounds_toArray, List.set_cons_zero, List.set_cons_succ]
            refine wpAnyH_take (i := 24) (v := ?zv121073) rfl (by kernel_rfl) (by kernel_rfl) (by kernel_rfl) (fun _ _ _ h => h) (Or.inl ⟨by kernel_rfl, ?zy121073⟩) (by assumption) ?zr121073
            case zy121073 => (intro w hSw; (try dsimp only at hSw); go_simp; try with_reducible rfl)
            change wpAnyH _ _ _ _ _ _ _ (Act.put _ (some 46) _) _
            simp only [Act.put, List.setIfInBounds_toArray, List.set_cons_zero, List.set_cons_succ]
            refine wpAnyH_ready (rs := [23]) (by kernel_rfl) (by simp) (AllReadyH.cons rfl (fun K hK => ?_) AllReadyH.nil)
            go_simp
            go_at_call 43
            refine (CTX.out _).mono ?_
            rintro e w5 ⟨rfl, hb5⟩
            have KF5 := Lib.hid (KF4.out.below hb5 KF4.out.lt)
            have KZ5 := Lib.hid (KZ4.out.below hb5 KZ4.out.lt)
            have KX5 := Lib.hid (KX4.out.below hb5 KX4.out.lt)
            have HO5 := Lib.hid (HO4.out.below hb5)
            have HB5 : Hid (Below w.heap.size w w5) := HB4.out.trans (hb5.mono HB4.out.size)
            have hz5 : w4.heap.size ≤ w5.heap.size := hb5.size
            have HBIT5 : Hid (w5.cell? ⟨bb, ob + k, none⟩ = some (.bool false)) := (hb5.cell (p := ⟨bb, ob + k, none⟩) (World.block_lt_of_cell? _ _ HBIT4.out)).trans HBIT4.out
            clear hb5
            refine hK.out _ _ (⟨feed_cells KF5.out, HBIT5.out⟩) (fun hHeld => ?_)
            clear hK K
            (try simp only [Act.put, List.setIfInBounds_toArray, List.set_cons_zero, List.set_cons_succ])
            refine wpAnyH_ready (rs := [25]) (by kernel_rfl) (by simp) (AllReadyH.cons rfl (fun K hK => ?_) AllReadyH.nil)
            go_simp
            go_at_call 42
            refine (CTR.out _ HB5.out).mono ?_
            rintro e w6 ⟨rfl, hb6⟩
            have KF6 := Lib.hid (KF5.out.below hb6 KF5.out.lt)
            have KZ6 := Lib.hid (KZ5.out.below hb6 KZ5.out.lt)
            have KX6 := Lib.hid (KX5.out.below hb6 KX5.out.lt)
            have HO6 := Lib.hid (HO5.out.below hb6)
            have HB6 : Hid (Below w.heap.size w w6) := HB5.out.trans (hb6.mono HB5.out.size)
            have hz6 : w5.heap.size ≤ w6.heap.size := hb6.size
            have HBIT6 : Hid (w6.cell? ⟨bb, ob + k, none⟩ = some (.bool false)) := (hb6.cell (p := ⟨bb, ob + k, none⟩) (World.block_lt_of_cell? _ _ HBIT5.out)).trans HBIT5.out
            clear hb6
            refine hK.out _ _ (⟨feed_cells KF6.out, HBIT6.out⟩) (fun hHeld => ?_)
            clear hK K
            (try simp only [Act.put, List.setIfInBounds_toArray, List.set_cons_zero, List.set_cons_succ])
            refine wpAnyH_take (i := 26) (v := ?zv121074) rfl (by kernel_rfl) (by kernel_rfl) (by kernel_rfl) (fun _ _ _ h => h) (Or.inl ⟨by kernel_rfl, ?zy121074⟩) (by assumption) ?zr121074
            case zy121074 => (intro w hSw; (try dsimp only at hSw); go_simp; try with_reducible rfl)
            change wpAnyH _ _ _ _ _ _ _ (Act.put _ (some 48) _) _
            simp only [Act.put, List.setIfInBounds_toArray, List.set_cons_zero, List.set_cons_succ]
            refine wpAnyH_take (i := 27) (v := ?zv121075) rfl (by kernel_rfl) (by kernel_rfl) (by kernel_rfl) (fun _ _ _ h => h) (Or.inl ⟨by kernel_rfl, ?zy121075⟩) (by assumption) ?zr121075
            case zy121075 => (intro w hSw; (try dsimp only at hSw); go_simp; try with_reducible rfl)
            change wpAnyH _ _ _ _ _ _ _ (Act.put _ (some 49) _) _
            simp only [Act.put, List.setIfInBounds_toArray, List.set_cons_zero, List.set_cons_succ]
            refine wpAnyH_done (by kernel_rfl) ?_ _
            obtain ⟨g1, rfl⟩ : ∃ g, X1 = some ⟨g, 0, none⟩ := by
              rcases owns_form HO6.out.strs with h | h
              · subst h
                obtain ⟨b, o, e, _⟩ := HO6.out.strs.ints (by rw [HNB.out]; omega)
                cases e
              · exact h
            obtain ⟨g2, rfl⟩ : ∃ g, X2 = some ⟨g, 0, none⟩ := by
              rcases ownb_form HO6.out.bits with h | h
              · subst h
                obtain ⟨b, o, e, _⟩ := HO6.out.bits.ints (by rw [HNH.out]; omega)
                cases e
              · exact h
            have hx1 := hlx g1 rfl
            have hy1 := hly g2 rfl
            have hne := hxy g1 g2 rfl rfl
            clear hlx hly hxy
            obtain ⟨sc, sf⟩ := owns_cell HO6.out.strs k (by rw [HNB.out]; exact hk)
            obtain ⟨x0, x1, x2, x3, x4, x5⟩ := feed_cells KX6.out
            have hs1 := owns_stored HO6.out.strs k t
            go_upto_region 7 with fail
            obtain ⟨w7, HW7⟩ : ∃ Q0, Hid (w6.setCell ⟨g1, k, none⟩ (.string t) = Q0) := ⟨_, rfl⟩
            rw [HW7.out] at hs1 ⊢
            have HS7 := Lib.hid hs1.1
            have HOB7 : Hid (OwnBools w7 w1.heap.size (some ⟨g2, 0, none⟩) e2 hs) := ownb_block HO6.out.bits fun g hA => by
              injection hA with hA
              injection hA with hA _ _
              rw [← HW7.out]
              exact Below.heap_setCell _ ⟨g1, k, none⟩ _ g (by show g ≠ g1; omega)
            have KF7 : Hid (Blk w7 w.heap.size 28 (feedC p (nb : Int) d s A1 nb c1 (some ⟨bb, ob, none⟩) nb c2)) := by rw [← HW7.out]; exact KF6.out.setOther (p := ⟨g1, k, none⟩) (by show g1 ≠ _; omega) _
            have KZ7 : Hid (Blk w7 gz 28 (feedC 0 0 0 0 none 0 0 none 0 0)) := by rw [← HW7.out]; exact KZ6.out.setOther (p := ⟨g1, k, none⟩) (by show g1 ≠ _; omega) _
            have KX7 : Hid (Blk w7 w2.heap.size 28 (feedC p (nb : Int) d s (some ⟨g1, 0, none⟩) nb e1 (some ⟨g2, 0, none⟩) nb e2)) := by rw [← HW7.out]; exact KX6.out.setOther (p := ⟨g1, k, none⟩) (by show g1 ≠ _; omega) _
            have HB7 : Hid (Below w.heap.size w w7) := by rw [← HW7.out]; exact HB6.out.setCell (p := ⟨g1, k, none⟩) (by show w.heap.size ≤ g1; have := HB1.out.size; omega) _
            have hz7 : w6.heap.size ≤ w7.heap.size := by rw [← HW7.out]; simp
            clear hs1 sc sf x0 x1 x2 x3 x4 x5
            obtain ⟨sc, sf⟩ := ownb_cell HOB7.out k (by rw [HNH.out]; exact hk)
            obtain ⟨x0, x1, x2, x3, x4, x5⟩ := feed_cells KX7.out
            have hs2 := ownb_stored HOB7.out k true
            go_upto_region 8 with fail
            obtain ⟨w8, HW8⟩ : ∃ Q0, Hid (w7.setCell ⟨g2, k, none⟩ (.bool true) = Q0) := ⟨_, rfl⟩
            rw [HW8.out] at hs2 ⊢
            have HOB8 := Lib.hid hs2.1
            have HS8 : Hid (OwnStrs w8 w1.heap.size (some ⟨g1, 0, none⟩) e1 (bs.set k t)) := owns_block HS7.out fun g hA => by
              injection hA with hA
              injection hA with hA _ _
              rw [← HW8.out]
              exact Below.heap_setCell _ ⟨g2, k, none⟩ _ g (by show g ≠ g2; omega)
            have KF8 : Hid (Blk w8 w.heap.size 28 (feedC p (nb : Int) d s A1 nb c1 (some ⟨bb, ob, none⟩) nb c2)) := by rw [← HW8.out]; exact KF7.out.setOther (p := ⟨g2, k, none⟩) (by show g2 ≠ _; omega) _
            have KZ8 : Hid (Blk w8 gz 28 (feedC 0 0 0 0 none 0 0 none 0 0)) := by rw [← HW8.out]; exact KZ7.out.setOther (p := ⟨g2, k, none⟩) (by show g2 ≠ _; omega) _
            have KX8 : Hid (Blk w8 w2.heap.size 28 (feedC p (nb : Int) d s (some ⟨g1, 0, none⟩) nb e1 (some ⟨g2, 0, none⟩) nb e2)) := by rw [← HW8.out]; exact KX7.out.setOther (p := ⟨g2, k, none⟩) (by show g2 ≠ _; omega) _
            have HB8 : Hid (Below w.heap.size w w8) := by rw [← HW8.out]; exact HB7.out.setCell (p := ⟨g2, k, none⟩) (by show w.heap.size ≤ g2; have := HB1.out.size; omega) _
            have hz8 : w7.heap.size ≤ w8.heap.size := by rw [← HW8.out]; simp
            have HO8 : Hid (OwnFeed w8 w1.heap.size (some ⟨g1, 0, none⟩) e1 (some ⟨g2, 0, none⟩) e2 (bs.set k t) (hs.set k true)) := ⟨HS8.out, HOB8.out, HF.out.fit.set k HT8.out⟩
            clear hs2 sc sf x0 x1 x2 x3 x4 x5
            have CV2 := Lib.hid (sfeedValid_any p (nb : Int) d s (some ⟨g1, 0, none⟩) e1 (some ⟨g2, 0, none⟩) e2 (bs.set k t) (hs.set k true) w8 HO8.out.at_)
            rw [HLB.out, HLH.out, show okB ⟨p, (nb : Int), d, s, bs.set k t, hs.set k true⟩ = ok2 from HK2.out] at CV2
            obtain ⟨x0, x1, x2, x3, x4, x5⟩ := feed_cells KX8.out
            go_wp2_with fail
            refine CV2.out.mono ?_
            rintro e w9 ⟨rfl, hb9⟩
            have KF9 := Lib.hid (KF8.out.below hb9 KF8.out.lt)
            have KZ9 := Lib.hid (KZ8.out.below hb9 KZ8.out.lt)
            have KX9 := Lib.hid (KX8.out.below hb9 KX8.out.lt)
            have HO9 := Lib.hid (HO8.out.below hb9)
            have HB9 : Hid (Below w.heap.size w w9) := HB8.out.trans (hb9.mono HB8.out.size)
            have hz9 : w8.heap.size ≤ w9.heap.size := hb9.size
            clear hb9 x0 x1 x2 x3 x4 x5
            cases ok2 with
            | true =>
              have HPK : Hid (putOk ⟨p, (nb : Int), d, s, bs, hs⟩ (k : Int) t zs = true) := (putOk_iff _ _ _ _).2 ⟨HO1.out, H8.out, HLT.out, by simp only; rw [HTZ.out]; exact HTO.out, by rw [Int.toNat_natCast]; exact HK2.out⟩
              have HPR : Hid (putR ⟨p, (nb : Int), d, s, bs, hs⟩ (k : Int) t zs = putF ⟨p, (nb : Int), d, s, bs, hs⟩ k t) := by
                show _ = _
                rw [putR_yes HPK.out, Int.toNat_natCast]
              obtain ⟨x0, x1, x2, x3, x4, x5⟩ := feed_cells KX9.out
              obtain ⟨r0, r1, r2, r3, r4, r5⟩ := feed_cells KZ9.out
              have rf := blk_frozen KZ9.out
              go_wp2
              obtain ⟨Y, HY⟩ : ∃ Y, Hid (((((((w9.setCell ⟨gz, 0, none⟩ (.int .i64 p)).setCell ⟨gz, 1, none⟩ (.int .i64 (nb : Int))).setCell ⟨gz, 2, none⟩ (.int .i64 d)).setCell ⟨gz, 3, none⟩ (.int .i64 s)).setCell ⟨gz, 4, none⟩ (.slice (some ⟨g1, 0, none⟩) nb e1)).setCell ⟨gz, 5, none⟩ (.slice (some ⟨g2, 0, none⟩) nb e2)) = Y) := ⟨_, rfl⟩
              have HBY : Hid (Below w.heap.size w Y) := by rw [← HY.out]; exact below_six HB9.out (by omega) _ _ _ _ _ _
              have KRY : Hid (Blk Y gz 28 (feedC p (nb : Int) d s (some ⟨g1, 0, none⟩) nb e1 (some ⟨g2, 0, none⟩) nb e2)) := by rw [← HY.out]; exact blk_six KZ9.out _ _ _ _ _ _
              have hoF : OwnFeed Y w.heap.size (some ⟨g1, 0, none⟩) e1 (some ⟨g2, 0, none⟩) e2 (bs.set k t) (hs.set k true) := by rw [← HY.out]; exact (own_six HO9.out KZ9.out _ _ _ _ _ _).base_le (by have := HB1.out.size; omega)
              rw [HY.out]
              obtain ⟨y0, y1, y2, y3, y4, y5⟩ := feed_cells KRY.out
              exact bodyPost_ret (v := .tuple #[feedV p (nb : Int) d s (some ⟨g1, 0, none⟩) nb e1 (some ⟨g2, 0, none⟩) nb e2, .bool true]) (by simp [results, Tryd.results11, go_sem, y0, y1, y2, y3, y4, y5]) rfl ⟨_, _, _, _, by rw [HPR.out, HPK.out]; show _ = Ending.returned (.tuple #[feedV p (nb : Int) d s (some ⟨g1, 0, none⟩) (bs.set k t).length e1 (some ⟨g2, 0, none⟩) (hs.set k true).length e2, .bool true]); rw [HLB.out, HLH.out], by rw [HPR.out]; exact hoF, HBY.out⟩
            | false =>
              have HPK : Hid (putOk ⟨p, (nb : Int), d, s, bs, hs⟩ (k : Int) t zs = false) := putOk_no fun h => by
                have h5 := h.2.2.2.2
                rw [Int.toNat_natCast, HK2.out] at h5; cases h5
              have HPR : Hid (putR ⟨p, (nb : Int), d, s, bs, hs⟩ (k : Int) t zs = ⟨p, (nb : Int), d, s, bs, hs⟩) := putR_no HO1.out H8.out HPK.out
              obtain ⟨k0, k1, k2, k3, k4, k5⟩ := feed_cells KF9.out
              go_wp2_with fail
              refine (CC2.out _ HB9.out).mono ?_
              rintro e w10 ⟨V1, f1, V2, f2, rfl, ho10, hb10⟩
              rw [HNB.out, HNH.out]
              have KZ10 := Lib.hid (KZ9.out.below hb10 KZ9.out.lt)
              have HO10 := Lib.hid ho10
              have HB10 : Hid (Below w.heap.size w w10) := HB9.out.trans (hb10.mono HB9.out.size)
              clear hb10 ho10 k0 k1 k2 k3 k4 k5
              obtain ⟨r0, r1, r2, r3, r4, r5⟩ := feed_cells KZ10.out
              have rf := blk_frozen KZ10.out
              go_wp2
              obtain ⟨Y, HY⟩ : ∃ Y, Hid (((((((w10.setCell ⟨gz, 0, none⟩ (.int .i64 p)).setCell ⟨gz, 1, none⟩ (.int .i64 (nb : Int))).setCell ⟨gz, 2, none⟩ (.int .i64 d)).setCell ⟨gz, 3, none⟩ (.int .i64 s)).setCell ⟨gz, 4, none⟩ (.slice V1 nb f1)).setCell ⟨gz, 5, none⟩ (.slice V2 nb f2)) = Y) := ⟨_, rfl⟩
              have HBY : Hid (Below w.heap.size w Y) := by rw [← HY.out]; exact below_six HB10.out (by omega) _ _ _ _ _ _
              have KRY : Hid (Blk Y gz 28 (feedC p (nb : Int) d s V1 nb f1 V2 nb f2)) := by rw [← HY.out]; exact blk_six KZ10.out _ _ _ _ _ _
              have hoF : OwnFeed Y w.heap.size V1 f1 V2 f2 bs hs := by rw [← HY.out]; exact (own_six HO10.out KZ10.out _ _ _ _ _ _).base_le (by have := HB9.out.size; omega)
              rw [HY.out]
              obtain ⟨y0, y1, y2, y3, y4, y5⟩ := feed_cells KRY.out
              exact bodyPost_ret (v := .tuple #[feedV p (nb : Int) d s V1 nb f1 V2 nb f2, .bool false]) (by simp [results, Tryd.results11, go_sem, y0, y1, y2, y3, y4, y5]) rfl ⟨_, _, _, _, by rw [HPR.out, HPK.out]; show _ = Ending.returned (.tuple #[feedV p (nb : Int) d s V1 bs.length f1 V2 hs.length f2, .bool false]); rw [HNB.out, HNH.out], by rw [HPR.out]; exact hoF, HBY.out⟩
      · have HPK : Hid (putOk ⟨p, (nb : Int), d, s, bs, hs⟩ i t zs = false) := putOk_no fun h => by
          have h3 := (lacksB_iff _ _).1 h.2.2.1
          simp only at h3
          rw [HNH.out] at h3
          exact hin ⟨h3.1, by omega⟩
        have HPR : Hid (putR ⟨p, (nb : Int), d, s, bs, hs⟩ i t zs = ⟨p, (nb : Int), d, s, bs, hs⟩) := putR_no hO h8 HPK.out
        have CIN : Hid (∀ U, Calls Tryd.prog 41 #[.int .i64 i, .int .i64 0, .int .i64 ((nb : Int) - 1)] U fun e w' => e = .returned (.bool false) ∧ Below U.heap.size U w') := fun U => (in_no i 0 ((nb : Int) - 1) U hin).mono fun e w' ⟨he, hw⟩ => ⟨he, by subst hw; exact Below.refl _ _⟩
        have hwn : IntKind.i64.wrap ((nb : Int) - 1) = (nb : Int) - 1 := IntWalk.i64_in _ (by omega)
        clear hO h8 hin
        go_enter Tryd.func11, Tryd.ntmps11
        go_upto_region 1 with fail
        rw [HW.out]
        go_wp2_with fail
        refine (CV.out _ HB.out).mono ?_
        rintro e w1 ⟨rfl, hb1⟩
        have KF1 := Lib.hid (KF.out.below hb1 KF.out.lt)
        have KZ1 := Lib.hid (KZ.out.below hb1 KZ.out.lt)
        have HB1 : Hid (Below w.heap.size w w1) := HB.out.trans (hb1.mono HB.out.size)
        have hz1 : W.heap.size ≤ w1.heap.size := hb1.size
        clear hb1 k0 k1 k2 k3 k4 k5
        obtain ⟨k0, k1, k2, k3, k4, k5⟩ := feed_cells KF1.out
        go_wp2_with fail
        refine (CC2.out _ HB1.out).mono ?_
        rintro e w2 ⟨X1, e1, X2, e2, rfl, ho2, hb2⟩
        rw [HNB.out, HNH.out]
        obtain ⟨w3, HW3⟩ : ∃ V, Hid (w2.alloc (.cells (feedC p (nb : Int) d s X1 nb e1 X2 nb e2) 28) = V) := ⟨_, rfl⟩
        have hb3 : Below w2.heap.size w2 w3 := by rw [← HW3.out]; exact (Below.refl _ _).alloc (Nat.le_refl _) _
        have hz12 : w1.heap.size ≤ w2.heap.size := hb2.size
        have hlx : ∀ g, X1 = some ⟨g, 0, none⟩ → w1.heap.size ≤ g ∧ g < w2.heap.size := owns_lt ho2.strs
        have hly : ∀ g, X2 = some ⟨g, 0, none⟩ → w1.heap.size ≤ g ∧ g < w2.heap.size := ownb_lt ho2.bits
        have hxy : ∀ g g', X1 = some ⟨g, 0, none⟩ → X2 = some ⟨g', 0, none⟩ → g ≠ g' := rows_part ho2.strs ho2.bits
        have KF3 := Lib.hid ((KF1.out.below hb2 KF1.out.lt).below hb3 (KF1.out.below hb2 KF1.out.lt).lt)
        have KZ3 := Lib.hid ((KZ1.out.below hb2 KZ1.out.lt).below hb3 (KZ1.out.below hb2 KZ1.out.lt).lt)
        have KX3 : Hid (Blk w3 w2.heap.size 28 (feedC p (nb : Int) d s X1 nb e1 X2 nb e2)) := by rw [← HW3.out]; exact Blk.new w2 _ _
        have HO3 := Lib.hid (ho2.below hb3)
        have HB2 : Hid (Below w.heap.size w w2) := HB1.out.trans (hb2.mono HB1.out.size)
        have HB3 : Hid (Below w.heap.size w w3) := HB2.out.trans (hb3.mono HB2.out.size)
        have hz3 : w2.heap.size < w3.heap.size := KX3.out.lt
        clear hb2 hb3 ho2 k0 k1 k2 k3 k4 k5
        go_upto_region 4 with fail
        rw [HW3.out]
        (try go_wp2_with fail)
        refine wp_region_held_drew (S := (fun w' => (w'.cell? ⟨w.heap.size, 0, none⟩ = some (.int .i64 p) ∧ w'.cell? ⟨w.heap.size, 1, none⟩ = some (.int .i64 (nb : Int)) ∧ w'.cell? ⟨w.heap.size, 2, none⟩ = some (.int .i64 d) ∧ w'.cell? ⟨w.heap.size, 3, none⟩ = some (.int .i64 s) ∧ w'.cell? ⟨w.heap.size, 4, none⟩ = some (.slice A1 nb c1) ∧ w'.cell? ⟨w.heap.size, 5, none⟩ = some (.slice A2 nb c2)))) (by kernel_rfl) (feed_cells KF3.out) (fun hHeld => ?_)
        refine wpAnyH_take (i := 0) (v := ?zv121001) rfl (by kernel_rfl) (by kernel_rfl) (by kernel_rfl) (fun _ _ _ h => h) (Or.inl ⟨by kernel_rfl, ?zy121001⟩) (by assumption) ?zr121001
        case zy121001 => (intro w hSw; (try dsimp only at hSw); go_simp; try with_reducible rfl)
        change wpAnyH _ _ _ _ _ _ _ (Act.put _ (some 22) _) _
        simp only [Act.put, List.setIfInBounds_toArray, List.set_cons_zero, List.set_cons_succ]
        refine wpAnyH_take (i := 1) (v := ?zv121002) rfl (by kernel_rfl) (by kernel_rfl) (by kernel_rfl) (fun _ _ _ h => h) (Or.inl ⟨by kernel_rfl, ?zy121002⟩) (by assumption) ?zr121002
        case zy121002 => (intro w hSw; (try dsimp only at hSw); go_simp; try with_reducible rfl)
        change wpAnyH _ _ _ _ _ _ _ (Act.put _ (some 23) _) _
        simp only [Act.put, List.setIfInBounds_toArray, List.set_cons_zero, List.set_cons_succ]
        refine wpAnyH_take (i := 2) (v := ?zv121003) rfl (by kernel_rfl) (by kernel_rfl) (by kernel_rfl) (fun _ _ _ h => h) (Or.inl ⟨by kernel_rfl, ?zy121003⟩) (by assumption) ?zr121003
        case zy121003 => (intro w hSw; (try dsimp only at hSw); go_simp; try with_reducible rfl)
        change wpAnyH _ _ _ _ _ _ _ (Act.put _ (some 24) _) _
        simp only [Act.put, List.setIfInBounds_toArray, List.set_cons_zero, List.set_cons_succ]
        refine wpAnyH_take (i := 3) (v := ?zv121004) rfl (by kernel_rfl) (by kernel_rfl) (by kernel_rfl) (fun _ _ _ h => h) (Or.inl ⟨by kernel_rfl, ?zy121004⟩) (by assumption) ?zr121004
        case zy121004 => (intro w hSw; (try dsimp only at hSw); go_simp; try with_reducible rfl)
        change wpAnyH _ _ _ _ _ _ _ (Act.put _ (some 25) _) _
        simp only [Act.put, List.setIfInBounds_toArray, List.set_cons_zero, List.set_cons_succ]
        refine wpAnyH_take (i := 4) (v := ?zv121005) rfl (by kernel_rfl) (by kernel_rfl) (by kernel_rfl) (fun _ _ _ h => h) (Or.inl ⟨by kernel_rfl, ?zy121005⟩) (by assumption) ?zr121005
        case zy121005 => (intro w hSw; (try dsimp only at hSw); go_simp; try with_reducible rfl)
        change wpAnyH _ _ _ _ _ _ _ (Act.put _ (some 26) _) _
        simp only [Act.put, List.setIfInBounds_toArray, List.set_cons_zero, List.set_cons_succ]
        refine wpAnyH_ready (rs := [5]) (by kernel_rfl) (by simp) (AllReadyH.cons rfl (fun K hK => ?_) AllReadyH.nil)
        go_simp
        go_at_call 41
        refine (CIN.out _).mono ?_
        rintro e w4 ⟨rfl, hb4d⟩
        have hb4 : Below w3.heap.size w3 w4 := below_drew_l hb4d
        clear hb4d
        have KF4 := Lib.hid (KF3.out.below hb4 KF3.out.lt)
        have KZ4 := Lib.hid (KZ3.out.below hb4 KZ3.out.lt)
        have KX4 := Lib.hid (KX3.out.below hb4 KX3.out.lt)
        have HO4 := Lib.hid (HO3.out.below hb4)
        have HB4 : Hid (Below w.heap.size w w4) := HB3.out.trans (hb4.mono HB3.out.size)
        have hz4 : w3.heap.size ≤ w4.heap.size := hb4.size
        clear hb4
        refine hK.out _ _ (feed_cells KF4.out) (fun hHeld => ?_)
        clear hK K
        (try simp only [Act.put, List.setIfInBounds_toArray, List.set_cons_zero, List.set_cons_succ])
        refine wpAnyH_take (i := 6) (v := ?zv121006) rfl (by kernel_rfl) (by kernel_rfl) (by kernel_rfl) (fun _ _ _ h => h) (Or.inl ⟨by kernel_rfl, ?zy121006⟩) (by assumption) ?zr121006
        case zy121006 => (intro w hSw; (try dsimp only at hSw); go_simp; try with_reducible rfl)
        change wpAnyH _ _ _ _ _ _ _ (Act.put _ (some 28) _) _
        simp only [Act.put, List.setIfInBounds_toArray, List.set_cons_zero, List.set_cons_succ]
        refine wpAnyH_take (i := 7) (v := ?zv121007) rfl (by kernel_rfl) (by kernel_rfl) (by kernel_rfl) (fun _ _ _ h => h) (Or.inl ⟨by kernel_rfl, ?zy121007⟩) (by assumption) ?zr121007
        case zy121007 => (intro w hSw; (try dsimp only at hSw); go_simp; try with_reducible rfl)
        change wpAnyH _ _ _ _ _ _ _ (Act.put _ (some 29) _) _
        simp only [Act.put, List.setIfInBounds_toArray, List.set_cons_zero, List.set_cons_succ]
        refine wpAnyH_take (i := 8) (v := undef) rfl (by kernel_rfl) (by kernel_rfl) (by kernel_rfl) (fun _ _ _ h => h) (Or.inr ⟨by kernel_rfl, rfl⟩) (by assumption) ?_
        change wpAnyH _ _ _ _ _ _ _ (Act.put _ (some 30) _) _
        simp only [Act.put, List.setIfInBounds_toArray, List.set_cons_zero, List.set_cons_succ]
        refine wpAnyH_take (i := 9) (v := undef) rfl (by kernel_rfl) (by kernel_rfl) (by kernel_rfl) (fun _ _ _ h => h) (Or.inr ⟨by kernel_rfl, rfl⟩) (by assumption) ?_
        change wpAnyH _ _ _ _ _ _ _ (Act.put _ (some 31) _) _
        simp only [Act.put, List.setIfInBounds_toArray, List.set_cons_zero, List.set_cons_succ]
        refine wpAnyH_take (i := 10) (v := undef) rfl (by kernel_rfl) (by kernel_rfl) (by kernel_rfl) (fun _ _ _ h => h) (Or.inr ⟨by kernel_rfl, rfl⟩) (by assumption) ?_
        change wpAnyH _ _ _ _ _ _ _ (Act.put _ (some 32) _) _
        simp only [Act.put, List.setIfInBounds_toArray, List.set_cons_zero, List.set_cons_succ]
        refine wpAnyH_take (i := 11) (v := undef) rfl (by kernel_rfl) (by kernel_rfl) (by kernel_rfl) (fun _ _ _ h => h) (Or.inr ⟨by kernel_rfl, rfl⟩) (by assumption) ?_
        change wpAnyH _ _ _ _ _ _ _ (Act.put _ (some 33) _) _
        simp only [Act.put, List.setIfInBounds_toArray, List.set_cons_zero, List.set_cons_succ]
        refine wpAnyH_take (i := 12) (v := undef) rfl (by kernel_rfl) (by kernel_rfl) (by kernel_rfl) (fun _ _ _ h => h) (Or.inr ⟨by kernel_rfl, rfl⟩) (by assumption) ?_
        change wpAnyH _ _ _ _ _ _ _ (Act.put _ (some 34) _) _
        simp only [Act.put, List.setIfInBounds_toArray, List.set_cons_zero, List.set_cons_succ]
        refine wpAnyH_take (i := 13) (v := ?zv121008) rfl (by kernel_rfl) (by kernel_rfl) (by kernel_rfl) (fun _ _ _ h => h) (Or.inl ⟨by kernel_rfl, ?zy121008⟩) (by assumption) ?zr121008
        case zy121008 => (intro w hSw; (try dsimp only at hSw); go_simp; try with_reducible rfl)
        change wpAnyH _ _ _ _ _ _ _ (Act.put _ (some 35) _) _
        simp only [Act.put, List.setIfInBounds_toArray, List.set_cons_zero, List.set_cons_succ]
        refine wpAnyH_take (i := 14) (v := ?zv121009) rfl (by kernel_rfl) (by kernel_rfl) (by kernel_rfl) (fun _ _ _ h => h) (Or.inl ⟨by kernel_rfl, ?zy121009⟩) (by assumption) ?zr121009
        case zy121009 => (intro w hSw; (try dsimp only at hSw); go_simp; try with_reducible rfl)
        change wpAnyH _ _ _ _ _ _ _ (Act.put _ (some 36) _) _
        simp only [Act.put, List.setIfInBounds_toArray, List.set_cons_zero, List.set_cons_succ]
        refine wpAnyH_take (i := 15) (v := undef) rfl (by kernel_rfl) (by kernel_rfl) (by kernel_rfl) (fun _ _ _ h => h) (Or.inr ⟨by kernel_rfl, rfl⟩) (by assumption) ?_
        change wpAnyH _ _ _ _ _ _ _ (Act.put _ (some 37) _) _
        simp only [Act.put, List.setIfInBounds_toArray, List.set_cons_zero, List.set_cons_succ]
        refine wpAnyH_take (i := 16) (v := undef) rfl (by kernel_rfl) (by kernel_rfl) (by kernel_rfl) (fun _ _ _ h => h) (Or.inr ⟨by kernel_rfl, rfl⟩) (by assumption) ?_
        change wpAnyH _ _ _ _ _ _ _ (Act.put _ (some 38) _) _
        simp only [Act.put, List.setIfInBounds_toArray, List.set_cons_zero, List.set_cons_succ]
        refine wpAnyH_take (i := 17) (v := undef) rfl (by kernel_rfl) (by kernel_rfl) (by kernel_rfl) (fun _ _ _ h => h) (Or.inr ⟨by kernel_rfl, rfl⟩) (by assumption) ?_
        change wpAnyH _ _ _ _ _ _ _ (Act.put _ (some 39) _) _
        simp only [Act.put, List.setIfInBounds_toArray, List.set_cons_zero, List.set_cons_succ]
        refine wpAnyH_take (i := 18) (v := undef) rfl (by kernel_rfl) (by kernel_rfl) (by kernel_rfl) (fun _ _ _ h => h) (Or.inr ⟨by kernel_rfl, rfl⟩) (by assumption) ?_
        change wpAnyH _ _ _ _ _ _ _ (Act.put _ (some 40) _) _
        simp only [Act.put, List.setIfInBounds_toArray, List.set_cons_zero, List.set_cons_succ]
        refine wpAnyH_take (i := 19) (v := undef) rfl (by kernel_rfl) (by kernel_rfl) (by kernel_rfl) (fun _ _ _ h => h) (Or.inr ⟨by kernel_rfl, rfl⟩) (by assumption) ?_
        change wpAnyH _ _ _ _ _ _ _ (Act.put _ (some 41) _) _
        simp only [Act.put, List.setIfInBounds_toArray, List.set_cons_zero, List.set_cons_succ]
        refine wpAnyH_take (i := 20) (v := undef) rfl (by kernel_rfl) (by kernel_rfl) (by kernel_rfl) (fun _ _ _ h => h) (Or.inr ⟨by kernel_rfl, rfl⟩) (by assumption) ?_
        change wpAnyH _ _ _ _ _ _ _ (Act.put _ (some 42) _) _
        simp only [Act.put, List.setIfInBounds_toArray, List.set_cons_zero, List.set_cons_succ]
        refine wpAnyH_take (i := 21) (v := undef) rfl (by kernel_rfl) (by kernel_rfl) (by kernel_rfl) (fun _ _ _ h => h) (Or.inr ⟨by kernel_rfl, rfl⟩) (by assumption) ?_
        change wpAnyH _ _ _ _ _ _ _ (Act.put _ (some 43) _) _
        simp only [Act.put, List.setIfInBounds_toArray, List.set_cons_zero, List.set_cons_succ]
        refine wpAnyH_take (i := 22) (v := undef) rfl (by kernel_rfl) (by kernel_rfl) (by kernel_rfl) (fun _ _ _ h => h) (Or.inr ⟨by kernel_rfl, rfl⟩) (by assumption) ?_
        change wpAnyH _ _ _ _ _ _ _ (Act.put _ (some 44) _) _
        simp only [Act.put, List.setIfInBounds_toArray, List.set_cons_zero, List.set_cons_succ]
        refine wpAnyH_take (i := 23) (v := undef) rfl (by kernel_rfl) (by kernel_rfl) (by kernel_rfl) (fun _ _ _ h => h) (Or.inr ⟨by kernel_rfl, rfl⟩) (by assumption) ?_
        change wpAnyH _ _ _ _ _ _ _ (Act.put _ (some 45) _) _
        simp only [Act.put, List.setIfInBounds_toArray, List.set_cons_zero, List.set_cons_succ]
        refine wpAnyH_take (i := 24) (v := undef) rfl (by kernel_rfl) (by kernel_rfl) (by kernel_rfl) (fun _ _ _ h => h) (Or.inr ⟨by kernel_rfl, rfl⟩) (by assumption) ?_
        change wpAnyH _ _ _ _ _ _ _ (Act.put _ (some 46) _) _
        simp only [Act.put, List.setIfInBounds_toArray, List.set_cons_zero, List.set_cons_succ]
        refine wpAnyH_take (i := 25) (v := undef) rfl (by kernel_rfl) (by kernel_rfl) (by kernel_rfl) (fun _ _ _ h => h) (Or.inr ⟨by kernel_rfl, rfl⟩) (by assumption) ?_
        change wpAnyH _ _ _ _ _ _ _ (Act.put _ (some 47) _) _
        simp only [Act.put, List.setIfInBounds_toArray, List.set_cons_zero, List.set_cons_succ]
        refine wpAnyH_take (i := 26) (v := undef) rfl (by kernel_rfl) (by kernel_rfl) (by kernel_rfl) (fun _ _ _ h => h) (Or.inr ⟨by kernel_rfl, rfl⟩) (by assumption) ?_
        change wpAnyH _ _ _ _ _ _ _ (Act.put _ (some 48) _) _
        simp only [Act.put, List.setIfInBounds_toArray, List.set_cons_zero, List.set_cons_succ]
        refine wpAnyH_take (i := 27) (v := ?zv121010) rfl (by kernel_rfl) (by kernel_rfl) (by kernel_rfl) (fun _ _ _ h => h) (Or.inl ⟨by kernel_rfl, ?zy121010⟩) (by assumption) ?zr121010
        case zy121010 => (intro w hSw; (try dsimp only at hSw); go_simp; try with_reducible rfl)
        change wpAnyH _ _ _ _ _ _ _ (Act.put _ (some 49) _) _
        simp only [Act.put, List.setIfInBounds_toArray, List.set_cons_zero, List.set_cons_succ]
        refine wpAnyH_done (by kernel_rfl) ?_ _
        obtain ⟨x0, x1, x2, x3, x4, x5⟩ := feed_cells KX4.out
        obtain ⟨r0, r1, r2, r3, r4, r5⟩ := feed_cells KZ4.out
        have rf := blk_frozen KZ4.out
        go_wp2
        obtain ⟨Y, HY⟩ : ∃ Y, Hid (((((((w4.setCell ⟨gz, 0, none⟩ (.int .i64 p)).setCell ⟨gz, 1, none⟩ (.int .i64 (nb : Int))).setCell ⟨gz, 2, none⟩ (.int .i64 d)).setCell ⟨gz, 3, none⟩ (.int .i64 s)).setCell ⟨gz, 4, none⟩ (.slice X1 nb e1)).setCell ⟨gz, 5, none⟩ (.slice X2 nb e2)) = Y) := ⟨_, rfl⟩
        have HBY : Hid (Below w.heap.size w Y) := by rw [← HY.out]; exact below_six HB4.out (by omega) _ _ _ _ _ _
        have KRY : Hid (Blk Y gz 28 (feedC p (nb : Int) d s X1 nb e1 X2 nb e2)) := by rw [← HY.out]; exact blk_six KZ4.out _ _ _ _ _ _
        have hoF : OwnFeed Y w.heap.size X1 e1 X2 e2 bs hs := by rw [← HY.out]; exact (own_six HO4.out KZ4.out _ _ _ _ _ _).base_le (by have := HB1.out.size; omega)
        rw [HY.out]
        obtain ⟨y0, y1, y2, y3, y4, y5⟩ := feed_cells KRY.out
        exact bodyPost_ret (v := .tuple #[feedV p (nb : Int) d s X1 nb e1 X2 nb e2, .bool false]) (by simp [results, Tryd.results11, go_sem, y0, y1, y2, y3, y4, y5]) rfl ⟨_, _, _, _, by rw [HPR.out, HPK.out]; show _ = Ending.returned (.tuple #[feedV p (nb : Int) d s X1 bs.length e1 X2 hs.length e2, .bool false]); rw [HNB.out, HNH.out], by rw [HPR.out]; exact hoF, HBY.out⟩
    · have h8i : (8 : Int) < (t.size : Int) := by omega
      have HPK : Hid (putOk ⟨p, (nb : Int), d, s, bs, hs⟩ i t zs = false) := putOk_no fun h => h8 h.2.1
      have HPR : Hid (putR ⟨p, (nb : Int), d, s, bs, hs⟩ i t zs = zeroF) := putR_inv fun h => h8 h.2
      clear hO h8 CC2
      go_enter Tryd.func11, Tryd.ntmps11
      go_upto_region 1 with fail
      rw [HW.out]
      go_wp2_with fail
      refine (CV.out _ HB.out).mono ?_
      rintro e w1 ⟨rfl, hb1⟩
      have KF1 := Lib.hid (KF.out.below hb1 KF.out.lt)
      have KZ1 := Lib.hid (KZ.out.below hb1 KZ.out.lt)
      have HB1 : Hid (Below w.heap.size w w1) := HB.out.trans (hb1.mono HB.out.size)
      have hz1 : W.heap.size ≤ w1.heap.size := hb1.size
      clear hb1 k0 k1 k2 k3 k4 k5
      obtain ⟨r0, r1, r2, r3, r4, r5⟩ := feed_cells KZ1.out
      have rf := blk_frozen KZ1.out
      go_wp2
      obtain ⟨Y, HY⟩ : ∃ Y, Hid (((((((w1.setCell ⟨gz, 0, none⟩ (.int .i64 0)).setCell ⟨gz, 1, none⟩ (.int .i64 0)).setCell ⟨gz, 2, none⟩ (.int .i64 0)).setCell ⟨gz, 3, none⟩ (.int .i64 0)).setCell ⟨gz, 4, none⟩ (.slice none 0 0)).setCell ⟨gz, 5, none⟩ (.slice none 0 0)) = Y) := ⟨_, rfl⟩
      have HBY : Hid (Below w.heap.size w Y) := by rw [← HY.out]; exact below_six HB1.out (by omega) _ _ _ _ _ _
      have KRY : Hid (Blk Y gz 28 (feedC 0 0 0 0 none 0 0 none 0 0)) := by rw [← HY.out]; exact blk_six KZ1.out _ _ _ _ _ _
      have hoF : OwnFeed Y w.heap.size none 0 none 0 [] [] := ⟨⟨rfl, .inl ⟨rfl, rfl⟩⟩, ⟨rfl, .inl ⟨rfl, rfl⟩⟩, fun k => Nat.zero_le _⟩
      rw [HY.out]
      obtain ⟨y0, y1, y2, y3, y4, y5⟩ := feed_cells KRY.out
      exact bodyPost_ret (v := .tuple #[feedV 0 0 0 0 none 0 0 none 0 0, .bool false]) (by simp [results, Tryd.results11, go_sem, y0, y1, y2, y3, y4, y5]) rfl ⟨_, _, _, _, by rw [HPR.out, HPK.out]; rfl, by rw [HPR.out]; exact hoF, HBY.out⟩

end Go.Proofs.YtgklkceoafohmaaDoor
