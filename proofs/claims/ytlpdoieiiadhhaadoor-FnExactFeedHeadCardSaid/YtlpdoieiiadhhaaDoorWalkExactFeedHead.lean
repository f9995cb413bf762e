/- The walk of FnExactFeedHead: it returns true and changes nothing that was there. Conditions: the feed and the proof lie in memory; the globals hold four different errors. -/
import Derived.Test.YtlpdoieiiadhhaaDoorHeadExact
namespace Go.Proofs.YtlpdoieiiadhhaaDoor
open Go.RowKit
set_option linter.unusedVariables false

/-- A feed's block is none of its rows. -/
theorem feed_ne_rows {w : World} {base : Nat} {A1 A2 : Option Addr} {c1 c2 : Nat} {bs : List ByteArray} {hs : List Bool} {gg : Nat} {cs : Array Value} (h : OwnFeed w base A1 c1 A2 c2 bs hs) (hk : Blk w gg 28 cs) : ∀ g, (A1 = some ⟨g, 0, none⟩ ∨ A2 = some ⟨g, 0, none⟩) → gg ≠ g := by
  rintro g (e1 | e1) e
  · subst e
    rcases h.strs.2 with ⟨hv, _⟩ | ⟨y, c', cur, hv, _, hb, _⟩
    · injection hv with hA _ _; rw [hA] at e1; cases e1
    · injection hv with hA _ _
      rw [hA] at e1
      injection e1 with e1
      injection e1 with e1 _ _
      subst e1
      have k := hb.symm.trans hk
      injection k with k
      injection k with _ k2 _
      exact absurd k2 (by decide)
  · subst e
    rcases h.bits.2 with ⟨hv, _⟩ | ⟨y, c', cur, hv, _, hb, _⟩
    · injection hv with hA _ _; rw [hA] at e1; cases e1
    · injection hv with hA _ _
      rw [hA] at e1
      injection e1 with e1
      injection e1 with e1 _ _
      subst e1
      have k := hb.symm.trans hk
      injection k with k
      injection k with _ k2 _
      exact absurd k2 (by decide)

set_option maxHeartbeats 32000000 in
set_option maxRecDepth 100000 in
theorem walkExactFeedHead {e0 e1 e2 e3 : Addr} (p l d s : Int) (A1 : Option Addr) (c1 : Nat) (A2 : Option Addr) (c2 : Nat) (bs : List ByteArray) (hs : List Bool) (hl hd ht : Int) (GX : Option Addr) (cz : Nat) (zs : List Int) (w : World) (hErr : Errs w e0 e1 e2 e3) (hF : FeedAt w w.heap.size A1 A2 bs hs) (hG : GrowthAt w GX cz zs) :
    Calls Tryd.prog 9 #[feedV p l d s A1 bs.length c1 A2 hs.length c2, headV hl hd ht, .slice GX zs.length cz] w fun e w' => e = .returned (.bool true) ∧ Below w.heap.size w w' := by
  have HF := Lib.hid hF
  have HG := Lib.hid hG
  have hE := Lib.hid hErr
  clear hErr
  obtain ⟨C, HC⟩ : ∃ C, Hid (codeZ ⟨p, l, d, s, bs, hs⟩ hl hd ht zs = C) := ⟨_, rfl⟩
  obtain ⟨op, ol, od, os, obs, ohs, HO⟩ : ∃ op ol od os obs ohs, Hid (headF ⟨p, l, d, s, bs, hs⟩ hl hd ht zs = ⟨op, ol, od, os, obs, ohs⟩) := ⟨_, _, _, _, _, _, rfl⟩
  obtain ⟨nb, HNB⟩ : ∃ n, Hid (bs.length = n) := ⟨_, rfl⟩
  obtain ⟨nh, HNH⟩ : ∃ n, Hid (hs.length = n) := ⟨_, rfl⟩
  obtain ⟨ng, HNG⟩ : ∃ n, Hid (zs.length = n) := ⟨_, rfl⟩
  obtain ⟨mb, HMB⟩ : ∃ n, Hid (obs.length = n) := ⟨_, rfl⟩
  obtain ⟨mh, HMH⟩ : ∃ n, Hid (ohs.length = n) := ⟨_, rfl⟩
  have hgm : ng ≤ 9223372036854775807 := by
    have h1 := hG.le
    have h2 := hG.most
    unfold maxLen at h2
    rw [HNG.out] at h1
    omega
  clear hF hG
  obtain ⟨W, HW⟩ : ∃ W, Hid ((w.alloc (.cells (feedC p l d s A1 nb c1 A2 nh c2) 45)).alloc (.cells #[.int .i64 hl, .int .i64 hd, .int .i64 ht] 43) = W) := ⟨_, rfl⟩
  have KA : Hid (Blk W w.heap.size 45 (feedC p l d s A1 nb c1 A2 nh c2)) := by rw [← HW.out]; exact (Blk.new w _ _).alloc _
  have KB : Hid (Blk W (w.heap.size + 1) 43 #[.int .i64 hl, .int .i64 hd, .int .i64 ht]) := by
    rw [← HW.out]
    have h := Blk.new (w.alloc (.cells (feedC p l d s A1 nb c1 A2 nh c2) 45)) 43 #[.int .i64 hl, .int .i64 hd, .int .i64 ht]
    rw [World.size_alloc] at h
    exact h
  have HB : Hid (Below w.heap.size w W) := by rw [← HW.out]; exact ((Below.refl _ w).alloc (Nat.le_refl _) _).alloc (by simp) _
  have Z1 := Lib.hid (szFeed_any p l d s A1 c1 A2 c2 bs hs W (HF.out.belowS HB.out))
  rw [HNB.out, HNH.out] at Z1
  rw [HNB.out, HNH.out, HNG.out]
  by_cases hz : ng ≤ 1048576
  · have HZM : Hid (zs.length ≤ 1048576) := by show _ ≤ _; rw [HNG.out]; exact hz
    have CZ : Hid (∀ U, Below w.heap.size w U → Calls Tryd.prog 25 #[.slice GX ng cz] U (CopiedI U zs ng)) := fun U hU => toInts_n GX cz zs U (HG.out.below hU).ints HZM.out HNG.out
    have GI : Hid (∀ (U : World) (b g : Nat), OwnInts U b (some ⟨g, 0, none⟩) ng zs → GrowthAt U (some ⟨g, 0, none⟩) ng zs) := fun U b g h => ⟨h.ints, h.le.1, h.le.2⟩
    go_enter Tryd.func9, Tryd.ntmps9
    go_wp2_with fail
    rw [HW.out]
    refine Z1.out.mono ?_
    rintro e w1 ⟨r1, rfl, hr0, hr1, hr2, hb1⟩
    have KA1 := Lib.hid (KA.out.below hb1 KA.out.lt)
    have KB1 := Lib.hid (KB.out.below hb1 KB.out.lt)
    have HB1 : Hid (Below w.heap.size w w1) := HB.out.trans (hb1.mono HB.out.size)
    clear hb1
    by_cases hr : 0 ≤ r1
    · have HL := Lib.hid (hr2 hr)
      clear hr2
      have hnb : nb ≤ 1048576 := by have h := HL.out.1; rw [HNB.out] at h; exact h
      have hnh : nh ≤ 1048576 := by have h := HL.out.2; rw [HNH.out] at h; exact h
      have HOL : Hid (obs.length ≤ 1048576 ∧ ohs.length ≤ 1048576) := by
        have h := headF_short (f := ⟨p, l, d, s, bs, hs⟩) (l := hl) (d := hd) (s := ht) (zs := zs) HL.out.1 HL.out.2
        rw [HO.out] at h
        exact h
      have HOL2 : Hid (mb ≤ 1048576 ∧ mh ≤ 1048576) := by
        have h := HOL.out
        rw [HMB.out, HMH.out] at h
        exact h
      have CA : Hid (∀ U, Below w.heap.size w U → Calls Tryd.prog 23 #[feedV p l d s A1 nb c1 A2 nh c2] U (CopiedN U p l d s bs hs nb nh)) := fun U hU => toFeed_n p l d s A1 c1 A2 c2 bs hs U (HF.out.belowS hU) HL.out.1 HL.out.2 HNB.out HNH.out
      have hs1w : w.heap.size + 1 < w1.heap.size := KB1.out.lt
      go_upto_region 7 with fail
      go_cut [8, 9] (fun sa sb wx => ∃ (gr : Nat) (RA : Option Addr) (rc : Nat) (RB : Option Addr) (rd : Nat), sa = .pointer (some ⟨gr, 0, none⟩) ∧ sb = .int .i64 C ∧ w.heap.size + 1 + 1 ≤ gr ∧ Hid (Blk wx gr 28 (feedC op ol od os RA mb rc RB mh rd)) ∧ Hid (OwnFeed wx (w.heap.size + 1 + 1) RA rc RB rd obs ohs) ∧ Hid (Blk wx w.heap.size 45 (feedC p l d s A1 nb c1 A2 nh c2)) ∧ Hid (Blk wx (w.heap.size + 1) 43 #[.int .i64 hl, .int .i64 hd, .int .i64 ht]) ∧ Hid (Below w.heap.size w wx))
      case first =>
        (try go_wp2_with fail)
        refine wp_region_held_drew (S := fun w' => (w'.cell? ⟨w.heap.size, 0, none⟩ = some (.int .i64 p) ∧ w'.cell? ⟨w.heap.size, 1, none⟩ = some (.int .i64 l) ∧ w'.cell? ⟨w.heap.size, 2, none⟩ = some (.int .i64 d) ∧ w'.cell? ⟨w.heap.size, 3, none⟩ = some (.int .i64 s) ∧ w'.cell? ⟨w.heap.size, 4, none⟩ = some (.slice A1 nb c1) ∧ w'.cell? ⟨w.heap.size, 5, none⟩ = some (.slice A2 nh c2)) ∧ (w'.cell? ⟨w.heap.size + 1, 0, none⟩ = some (.int .i64 hl) ∧ w'.cell? ⟨w.heap.size + 1, 1, none⟩ = some (.int .i64 hd) ∧ w'.cell? ⟨w.heap.size + 1, 2, none⟩ = some (.int .i64 ht))) (by kernel_rfl) (⟨feed_cells KA1.out, head_cells KB1.out⟩) (fun hHeld => ?_)
        obtain ⟨U0, HU0⟩ : ∃ U, Hid (w1.drew = U) := ⟨_, rfl⟩
        have KA0 := Lib.hid (KA1.out.below (below_drew (Below.refl _ _)) KA1.out.lt)
        have KB0 := Lib.hid (KB1.out.below (below_drew (Below.refl _ _)) KB1.out.lt)
        have HB0 : Hid (Below w.heap.size w U0) := by rw [← HU0.out]; exact below_drew HB1.out
        have hzz : w1.heap.size ≤ U0.heap.size := by rw [← HU0.out]; exact Nat.le_refl _
        rw [HU0.out] at hHeld KA0 KB0 ⊢
        refine wpAnyH_take (i := 0) (v := ?zv1) rfl (by kernel_rfl) (by kernel_rfl) (by kernel_rfl) (fun _ _ _ h => h) (Or.inl ⟨by kernel_rfl, ?zy1⟩) (by assumption) ?zr1
        case zy1 => (intro w hSw; (try dsimp only at hSw); go_simp; try with_reducible rfl)
        change wpAnyH _ _ _ _ _ _ _ (Act.put _ (some 28) _) _
        simp only [Act.put, List.setIfInBounds_toArray, List.set_cons_zero, List.set_cons_succ]
        refine wpAnyH_take (i := 2) (v := ?zv2) rfl (by kernel_rfl) (by kernel_rfl) (by kernel_rfl) (fun _ _ _ h => h) (Or.inl ⟨by kernel_rfl, ?zy2⟩) (by assumption) ?zr2
        case zy2 => (intro w hSw; (try dsimp only at hSw); go_simp; try with_reducible rfl)
        change wpAnyH _ _ _ _ _ _ _ (Act.put _ (some 30) _) _
        simp only [Act.put, List.setIfInBounds_toArray, List.set_cons_zero, List.set_cons_succ]
        refine wpAnyH_take (i := 4) (v := ?zv3) rfl (by kernel_rfl) (by kernel_rfl) (by kernel_rfl) (fun _ _ _ h => h) (Or.inl ⟨by kernel_rfl, ?zy3⟩) (by assumption) ?zr3
        case zy3 => (intro w hSw; (try dsimp only at hSw); go_simp; try with_reducible rfl)
        change wpAnyH _ _ _ _ _ _ _ (Act.put _ (some 32) _) _
        simp only [Act.put, List.setIfInBounds_toArray, List.set_cons_zero, List.set_cons_succ]
        refine wpAnyH_ready (rs := [1, 10]) (by kernel_rfl) (by simp) (AllReadyH.cons rfl (fun K hK => ?zo4_0) (AllReadyH.cons rfl (fun K hK => ?zo4_1) AllReadyH.nil))
        case zo4_0 =>
          go_simp
          go_at_call 23
          refine (CA.out U0 HB0.out).mono ?_
          rintro e U1 ⟨ta, tb, rfl, ho1, hb1⟩
          have KA1 := Lib.hid (KA0.out.below hb1 KA0.out.lt)
          have KB1 := Lib.hid (KB0.out.below hb1 KB0.out.lt)
          have HB1 : Hid (Below w.heap.size w U1) := HB0.out.trans (hb1.mono HB0.out.size)
          have hs1 : U0.heap.size ≤ U1.heap.size := hb1.size
          have TF1 := Lib.hid ho1
          clear ho1
          refine hK.out _ _ (⟨feed_cells KA1.out, head_cells KB1.out⟩) (fun hHeld => ?_)
          clear hK K
          (try simp only [Act.put, List.setIfInBounds_toArray, List.set_cons_zero, List.set_cons_succ])
          refine wpAnyH_ready (rs := [3, 10]) (by kernel_rfl) (by simp) (AllReadyH.cons rfl (fun K hK => ?zo5_0) (AllReadyH.cons rfl (fun K hK => ?zo5_1) AllReadyH.nil))
          case zo5_0 =>
            go_simp
            go_at_call 24
            refine (toHead_any hl hd ht U1).mono ?_
            rintro e U2 ⟨rfl, hb2⟩
            have KA2 := Lib.hid (KA1.out.below hb2 KA1.out.lt)
            have KB2 := Lib.hid (KB1.out.below hb2 KB1.out.lt)
            have HB2 : Hid (Below w.heap.size w U2) := HB1.out.trans (hb2.mono HB1.out.size)
            have TF2 := Lib.hid (TF1.out.below hb2)
            have hs2 : U1.heap.size ≤ U2.heap.size := hb2.size
            refine hK.out _ _ (⟨feed_cells KA2.out, head_cells KB2.out⟩) (fun hHeld => ?_)
            clear hK K
            (try simp only [Act.put, List.setIfInBounds_toArray, List.set_cons_zero, List.set_cons_succ])
            refine wpAnyH_ready (rs := [5, 10]) (by kernel_rfl) (by simp) (AllReadyH.cons rfl (fun K hK => ?zo6_0) (AllReadyH.cons rfl (fun K hK => ?zo6_1) AllReadyH.nil))
            case zo6_0 =>
              go_simp
              go_at_call 25
              refine (CZ.out U2 HB2.out).mono ?_
              rintro e U3 ⟨tg, rfl, -, ho3, hb3⟩
              have KA3 := Lib.hid (KA2.out.below hb3 KA2.out.lt)
              have KB3 := Lib.hid (KB2.out.below hb3 KB2.out.lt)
              have HB3 : Hid (Below w.heap.size w U3) := HB2.out.trans (hb3.mono HB2.out.size)
              have TF3 := Lib.hid (TF2.out.below hb3)
              have hs3 : U2.heap.size ≤ U3.heap.size := hb3.size
              have TI3 := Lib.hid ho3
              clear ho3
              refine hK.out _ _ (⟨feed_cells KA3.out, head_cells KB3.out⟩) (fun hHeld => ?_)
              clear hK K
              (try simp only [Act.put, List.setIfInBounds_toArray, List.set_cons_zero, List.set_cons_succ])
              refine wpAnyH_ready (rs := [6, 10]) (by kernel_rfl) (by simp) (AllReadyH.cons rfl (fun K hK => ?zo7_0) (AllReadyH.cons rfl (fun K hK => ?zo7_1) AllReadyH.nil))
              case zo7_0 =>
                go_simp
                go_at_call 13
                refine (sfeedHead_n p l d s (some ⟨ta, 0, none⟩) nb (some ⟨tb, 0, none⟩) nh bs hs hl hd ht (some ⟨tg, 0, none⟩) ng zs U3 (by have k := GI.out _ _ _ TI3.out; exact k) TF3.out.at_ (fun e => by cases e) (fun e => by cases e) HNB.out HNH.out HNG.out HO.out HMB.out HMH.out HC.out).mono ?_
                rintro e U4 ⟨RA, rc, RB, rd, rfl, ho4, hb4⟩
                have KA4 := Lib.hid (KA3.out.below hb4 KA3.out.lt)
                have KB4 := Lib.hid (KB3.out.below hb4 KB3.out.lt)
                have HB4 : Hid (Below w.heap.size w U4) := HB3.out.trans (hb4.mono HB3.out.size)
                have TF4 := Lib.hid (TF3.out.below hb4)
                have TI4 := Lib.hid (TI3.out.below hb4)
                have hs4 : U3.heap.size ≤ U4.heap.size := hb4.size
                have RW4 := Lib.hid ho4
                have HRW := Lib.hid ho4.rows
                clear ho4
                refine hK.out _ _ (⟨feed_cells KA4.out, head_cells KB4.out⟩) (fun hHeld => ?_)
                clear hK K
                (try simp only [Act.put, List.setIfInBounds_toArray, List.set_cons_zero, List.set_cons_succ])
                refine wpAnyH_take (i := 7) (v := ?zv8) rfl (by kernel_rfl) (by kernel_rfl) (by kernel_rfl) (fun _ _ _ h => h) (Or.inl ⟨by kernel_rfl, ?zy8⟩) (by assumption) ?zr8
                case zy8 => (intro w hSw; (try dsimp only at hSw); go_simp; try with_reducible rfl)
                change wpAnyH _ _ _ _ _ _ _ (Act.put _ (some 27) _) _
                simp only [Act.put, List.setIfInBounds_toArray, List.set_cons_zero, List.set_cons_succ]
                refine wpAnyH_take (i := 8) (v := ?zv9) rfl (by kernel_rfl) (by kernel_rfl) (by kernel_rfl) (fun _ _ _ h => h) (Or.inl ⟨by kernel_rfl, ?zy9⟩) (by assumption) ?zr9
                case zy9 => (intro w hSw; (try dsimp only at hSw); go_simp; try with_reducible rfl)
                change wpAnyH _ _ _ _ _ _ _ (Act.put _ (some 35) _) _
                simp only [Act.put, List.setIfInBounds_toArray, List.set_cons_zero, List.set_cons_succ]
                refine wpAnyH_take (i := 9) (v := ?zv10) rfl (by kernel_rfl) (by kernel_rfl) (by kernel_rfl) (fun _ _ _ h => h) (Or.inl ⟨by kernel_rfl, ?zy10⟩) (by assumption) ?zr10
                case zy10 => (intro w hSw; (try dsimp only at hSw); go_simp; try with_reducible rfl)
                change wpAnyH _ _ _ _ _ _ _ (Act.put _ (some 36) _) _
                simp only [Act.put, List.setIfInBounds_toArray, List.set_cons_zero, List.set_cons_succ]
                refine wpAnyH_ready (rs := [10]) (by kernel_rfl) (by simp) (AllReadyH.cons rfl (fun K hK => ?zo11_0) AllReadyH.nil)
                case zo11_0 =>
                  go_simp
                  refine hK.out _ _ (⟨feed_cells (KA4.out.alloc _), head_cells (KB4.out.alloc _)⟩) (fun hHeld => ?_)
                  clear hK K
                  (try simp only [Act.put, List.setIfInBounds_toArray, List.set_cons_zero, List.set_cons_succ])
                  obtain ⟨U5, HU5⟩ : ∃ U, Hid (U4.alloc (.cells (feedC 0 0 0 0 none 0 0 none 0 0) 28) = U) := ⟨_, rfl⟩
                  have hb5 : Below U4.heap.size U4 U5 := by rw [← HU5.out]; exact (Below.refl _ _).alloc (Nat.le_refl _) _
                  have KA5 := Lib.hid (KA4.out.below hb5 KA4.out.lt)
                  have KB5 := Lib.hid (KB4.out.below hb5 KB4.out.lt)
                  have HB5 : Hid (Below w.heap.size w U5) := HB4.out.trans (hb5.mono HB4.out.size)
                  have RW5 := Lib.hid (RW4.out.below hb5)
                  have hs5 : U4.heap.size ≤ U5.heap.size := hb5.size
                  have KT5 : Hid (Blk U5 U4.heap.size 28 (feedC 0 0 0 0 none 0 0 none 0 0)) := by rw [← HU5.out]; exact Blk.new U4 _ _
                  have hz5 : U4.heap.size < U5.heap.size := KT5.out.lt
                  rw [HU5.out] at hHeld ⊢
                  refine wpAnyH_ready (rs := [11]) (by kernel_rfl) (by simp) (AllReadyH.cons rfl (fun K hK => ?zo12_0) AllReadyH.nil)
                  case zo12_0 =>
                    go_simp
                    obtain ⟨n0, n1, n2, n3, n4, n5⟩ := feed_cells KT5.out
                    have nf := blk_frozen KT5.out
                    obtain ⟨U6, HU6⟩ : ∃ U, Hid (((((((U5.setCell ⟨U4.heap.size, 0, none⟩ (.int .i64 op)).setCell ⟨U4.heap.size, 1, none⟩ (.int .i64 ol)).setCell ⟨U4.heap.size, 2, none⟩ (.int .i64 od)).setCell ⟨U4.heap.size, 3, none⟩ (.int .i64 os)).setCell ⟨U4.heap.size, 4, none⟩ (.slice RA mb rc)).setCell ⟨U4.heap.size, 5, none⟩ (.slice RB mh rd)) = U) := ⟨_, rfl⟩
                    have ho6 : ∀ i, i ≠ U4.heap.size → U6.heap[i]? = U5.heap[i]? := by rw [← HU6.out]; exact six_other _ _ _ _ _ _ _ _
                    have hq6 : Below U0.heap.size U5 U6 := by rw [← HU6.out]; exact below_six (Below.refl _ _) (by omega) _ _ _ _ _ _
                    have KT6 : Hid (Blk U6 U4.heap.size 28 (feedC op ol od os RA mb rc RB mh rd)) := by rw [← HU6.out]; exact blk_six KT5.out _ _ _ _ _ _
                    have RW6 : Hid (OwnFeed U6 _ RA rc RB rd obs ohs) := RW5.out.blocks fun r hr => ho6 r (by have := HRW.out r hr; omega)
                    have KA6 := Lib.hid (KA5.out.below hq6 KA0.out.lt)
                    have KB6 := Lib.hid (KB5.out.below hq6 KB0.out.lt)
                    have HB6 : Hid (Below w.heap.size w U6) := HB5.out.trans (hq6.mono HB0.out.size)
                    go_simp
                    rw [HU6.out]
                    refine hK.out _ _ (⟨feed_cells KA6.out, head_cells KB6.out⟩) (fun hHeld => ?_)
                    clear hK K
                    (try simp only [Act.put])
                    refine wpAnyH_take (i := 12) (v := ?zv13) rfl (by kernel_rfl) (by kernel_rfl) (by kernel_rfl) (fun _ _ _ h => h) (Or.inl ⟨by kernel_rfl, ?zy13⟩) (by assumption) ?zr13
                    case zy13 => (intro w hSw; (try dsimp only at hSw); go_simp; try with_reducible rfl)
                    change wpAnyH _ _ _ _ _ _ _ (Act.put _ (some 9) _) _
                    simp only [Act.put, List.setIfInBounds_toArray, List.set_cons_zero, List.set_cons_succ]
                    refine wpAnyH_done (by kernel_rfl) ?_ _
                    (try go_wp2_with fail)
                    go_meet
                    exact ⟨_, RA, rc, RB, rd, rfl, rfl, by omega, KT6, Lib.hid (RW6.out.base_le (by omega)), KA6, KB6, HB6⟩
              case zo7_1 =>
                go_simp
                refine hK.out _ _ (⟨feed_cells (KA3.out.alloc _), head_cells (KB3.out.alloc _)⟩) (fun hHeld => ?_)
                clear hK K
                (try simp only [Act.put, List.setIfInBounds_toArray, List.set_cons_zero, List.set_cons_succ])
                obtain ⟨U4, HU4⟩ : ∃ U, Hid (U3.alloc (.cells (feedC 0 0 0 0 none 0 0 none 0 0) 28) = U) := ⟨_, rfl⟩
                have hb4 : Below U3.heap.size U3 U4 := by rw [← HU4.out]; exact (Below.refl _ _).alloc (Nat.le_refl _) _
                have KA4 := Lib.hid (KA3.out.below hb4 KA3.out.lt)
                have KB4 := Lib.hid (KB3.out.below hb4 KB3.out.lt)
                have HB4 : Hid (Below w.heap.size w U4) := HB3.out.trans (hb4.mono HB3.out.size)
                have TF4 := Lib.hid (TF3.out.below hb4)
                have TI4 := Lib.hid (TI3.out.below hb4)
                have hs4 : U3.heap.size ≤ U4.heap.size := hb4.size
                have KT4 : Hid (Blk U4 U3.heap.size 28 (feedC 0 0 0 0 none 0 0 none 0 0)) := by rw [← HU4.out]; exact Blk.new U3 _ _
                have hz4 : U3.heap.size < U4.heap.size := KT4.out.lt
                rw [HU4.out] at hHeld ⊢
                refine wpAnyH_ready (rs := [6]) (by kernel_rfl) (by simp) (AllReadyH.cons rfl (fun K hK => ?zo14_0) AllReadyH.nil)
                case zo14_0 =>
                  go_simp
                  go_at_call 13
                  refine (sfeedHead_n p l d s (some ⟨ta, 0, none⟩) nb (some ⟨tb, 0, none⟩) nh bs hs hl hd ht (some ⟨tg, 0, none⟩) ng zs U4 (by have k := GI.out _ _ _ TI4.out; exact k) TF4.out.at_ (fun e => by cases e) (fun e => by cases e) HNB.out HNH.out HNG.out HO.out HMB.out HMH.out HC.out).mono ?_
                  rintro e U5 ⟨RA, rc, RB, rd, rfl, ho5, hb5⟩
                  have KA5 := Lib.hid (KA4.out.below hb5 KA4.out.lt)
                  have KB5 := Lib.hid (KB4.out.below hb5 KB4.out.lt)
                  have HB5 : Hid (Below w.heap.size w U5) := HB4.out.trans (hb5.mono HB4.out.size)
                  have TF5 := Lib.hid (TF4.out.below hb5)
                  have TI5 := Lib.hid (TI4.out.below hb5)
                  have KT5 := Lib.hid (KT4.out.below hb5 KT4.out.lt)
                  have hs5 : U4.heap.size ≤ U5.heap.size := hb5.size
                  have RW5 := Lib.hid ho5
                  have HRW := Lib.hid ho5.rows
                  clear ho5
                  refine hK.out _ _ (⟨feed_cells KA5.out, head_cells KB5.out⟩) (fun hHeld => ?_)
                  clear hK K
                  (try simp only [Act.put, List.setIfInBounds_toArray, List.set_cons_zero, List.set_cons_succ])
                  refine wpAnyH_take (i := 7) (v := ?zv15) rfl (by kernel_rfl) (by kernel_rfl) (by kernel_rfl) (fun _ _ _ h => h) (Or.inl ⟨by kernel_rfl, ?zy15⟩) (by assumption) ?zr15
                  case zy15 => (intro w hSw; (try dsimp only at hSw); go_simp; try with_reducible rfl)
                  change wpAnyH _ _ _ _ _ _ _ (Act.put _ (some 27) _) _
                  simp only [Act.put, List.setIfInBounds_toArray, List.set_cons_zero, List.set_cons_succ]
                  refine wpAnyH_take (i := 8) (v := ?zv16) rfl (by kernel_rfl) (by kernel_rfl) (by kernel_rfl) (fun _ _ _ h => h) (Or.inl ⟨by kernel_rfl, ?zy16⟩) (by assumption) ?zr16
                  case zy16 => (intro w hSw; (try dsimp only at hSw); go_simp; try with_reducible rfl)
                  change wpAnyH _ _ _ _ _ _ _ (Act.put _ (some 35) _) _
                  simp only [Act.put, List.setIfInBounds_toArray, List.set_cons_zero, List.set_cons_succ]
                  refine wpAnyH_take (i := 9) (v := ?zv17) rfl (by kernel_rfl) (by kernel_rfl) (by kernel_rfl) (fun _ _ _ h => h) (Or.inl ⟨by kernel_rfl, ?zy17⟩) (by assumption) ?zr17
                  case zy17 => (intro w hSw; (try dsimp only at hSw); go_simp; try with_reducible rfl)
                  change wpAnyH _ _ _ _ _ _ _ (Act.put _ (some 36) _) _
                  simp only [Act.put, List.setIfInBounds_toArray, List.set_cons_zero, List.set_cons_succ]
                  refine wpAnyH_ready (rs := [11]) (by kernel_rfl) (by simp) (AllReadyH.cons rfl (fun K hK => ?zo18_0) AllReadyH.nil)
                  case zo18_0 =>
                    go_simp
                    obtain ⟨n0, n1, n2, n3, n4, n5⟩ := feed_cells KT5.out
                    have nf := blk_frozen KT5.out
                    obtain ⟨U6, HU6⟩ : ∃ U, Hid (((((((U5.setCell ⟨U3.heap.size, 0, none⟩ (.int .i64 op)).setCell ⟨U3.heap.size, 1, none⟩ (.int .i64 ol)).setCell ⟨U3.heap.size, 2, none⟩ (.int .i64 od)).setCell ⟨U3.heap.size, 3, none⟩ (.int .i64 os)).setCell ⟨U3.heap.size, 4, none⟩ (.slice RA mb rc)).setCell ⟨U3.heap.size, 5, none⟩ (.slice RB mh rd)) = U) := ⟨_, rfl⟩
                    have ho6 : ∀ i, i ≠ U3.heap.size → U6.heap[i]? = U5.heap[i]? := by rw [← HU6.out]; exact six_other _ _ _ _ _ _ _ _
                    have hq6 : Below U0.heap.size U5 U6 := by rw [← HU6.out]; exact below_six (Below.refl _ _) (by omega) _ _ _ _ _ _
                    have KT6 : Hid (Blk U6 U3.heap.size 28 (feedC op ol od os RA mb rc RB mh rd)) := by rw [← HU6.out]; exact blk_six KT5.out _ _ _ _ _ _
                    have RW6 : Hid (OwnFeed U6 _ RA rc RB rd obs ohs) := RW5.out.blocks fun r hr => ho6 r (by have := HRW.out r hr; omega)
                    have KA6 := Lib.hid (KA5.out.below hq6 KA0.out.lt)
                    have KB6 := Lib.hid (KB5.out.below hq6 KB0.out.lt)
                    have HB6 : Hid (Below w.heap.size w U6) := HB5.out.trans (hq6.mono HB0.out.size)
                    go_simp
                    rw [HU6.out]
                    refine hK.out _ _ (⟨feed_cells KA6.out, head_cells KB6.out⟩) (fun hHeld => ?_)
                    clear hK K
                    (try simp only [Act.put])
                    refine wpAnyH_take (i := 12) (v := ?zv19) rfl (by kernel_rfl) (by kernel_rfl) (by kernel_rfl) (fun _ _ _ h => h) (Or.inl ⟨by kernel_rfl, ?zy19⟩) (by assumption) ?zr19
                    case zy19 => (intro w hSw; (try dsimp only at hSw); go_simp; try with_reducible rfl)
                    change wpAnyH _ _ _ _ _ _ _ (Act.put _ (some 9) _) _
                    simp only [Act.put, List.setIfInBounds_toArray, List.set_cons_zero, List.set_cons_succ]
                    refine wpAnyH_done (by kernel_rfl) ?_ _
                    (try go_wp2_with fail)
                    go_meet
                    exact ⟨_, RA, rc, RB, rd, rfl, rfl, by omega, KT6, Lib.hid (RW6.out.base_le (by omega)), KA6, KB6, HB6⟩
            case zo6_1 =>
              go_simp
              refine hK.out _ _ (⟨feed_cells (KA2.out.alloc _), head_cells (KB2.out.alloc _)⟩) (fun hHeld => ?_)
              clear hK K
              (try simp only [Act.put, List.setIfInBounds_toArray, List.set_cons_zero, List.set_cons_succ])
              obtain ⟨U3, HU3⟩ : ∃ U, Hid (U2.alloc (.cells (feedC 0 0 0 0 none 0 0 none 0 0) 28) = U) := ⟨_, rfl⟩
              have hb3 : Below U2.heap.size U2 U3 := by rw [← HU3.out]; exact (Below.refl _ _).alloc (Nat.le_refl _) _
              have KA3 := Lib.hid (KA2.out.below hb3 KA2.out.lt)
              have KB3 := Lib.hid (KB2.out.below hb3 KB2.out.lt)
              have HB3 : Hid (Below w.heap.size w U3) := HB2.out.trans (hb3.mono HB2.out.size)
              have TF3 := Lib.hid (TF2.out.below hb3)
              have hs3 : U2.heap.size ≤ U3.heap.size := hb3.size
              have KT3 : Hid (Blk U3 U2.heap.size 28 (feedC 0 0 0 0 none 0 0 none 0 0)) := by rw [← HU3.out]; exact Blk.new U2 _ _
              have hz3 : U2.heap.size < U3.heap.size := KT3.out.lt
              rw [HU3.out] at hHeld ⊢
              refine wpAnyH_ready (rs := [5]) (by kernel_rfl) (by simp) (AllReadyH.cons rfl (fun K hK => ?zo20_0) AllReadyH.nil)
              case zo20_0 =>
                go_simp
                go_at_call 25
                refine (CZ.out U3 HB3.out).mono ?_
                rintro e U4 ⟨tg, rfl, -, ho4, hb4⟩
                have KA4 := Lib.hid (KA3.out.below hb4 KA3.out.lt)
                have KB4 := Lib.hid (KB3.out.below hb4 KB3.out.lt)
                have HB4 : Hid (Below w.heap.size w U4) := HB3.out.trans (hb4.mono HB3.out.size)
                have TF4 := Lib.hid (TF3.out.below hb4)
                have KT4 := Lib.hid (KT3.out.below hb4 KT3.out.lt)
                have hs4 : U3.heap.size ≤ U4.heap.size := hb4.size
                have TI4 := Lib.hid ho4
                clear ho4
                refine hK.out _ _ (⟨feed_cells KA4.out, head_cells KB4.out⟩) (fun hHeld => ?_)
                clear hK K
                (try simp only [Act.put, List.setIfInBounds_toArray, List.set_cons_zero, List.set_cons_succ])
                refine wpAnyH_ready (rs := [6]) (by kernel_rfl) (by simp) (AllReadyH.cons rfl (fun K hK => ?zo21_0) AllReadyH.nil)
                case zo21_0 =>
                  go_simp
                  go_at_call 13
                  refine (sfeedHead_n p l d s (some ⟨ta, 0, none⟩) nb (some ⟨tb, 0, none⟩) nh bs hs hl hd ht (some ⟨tg, 0, none⟩) ng zs U4 (by have k := GI.out _ _ _ TI4.out; exact k) TF4.out.at_ (fun e => by cases e) (fun e => by cases e) HNB.out HNH.out HNG.out HO.out HMB.out HMH.out HC.out).mono ?_
                  rintro e U5 ⟨RA, rc, RB, rd, rfl, ho5, hb5⟩
                  have KA5 := Lib.hid (KA4.out.below hb5 KA4.out.lt)
                  have KB5 := Lib.hid (KB4.out.below hb5 KB4.out.lt)
                  have HB5 : Hid (Below w.heap.size w U5) := HB4.out.trans (hb5.mono HB4.out.size)
                  have TF5 := Lib.hid (TF4.out.below hb5)
                  have KT5 := Lib.hid (KT4.out.below hb5 KT4.out.lt)
                  have TI5 := Lib.hid (TI4.out.below hb5)
                  have hs5 : U4.heap.size ≤ U5.heap.size := hb5.size
                  have RW5 := Lib.hid ho5
                  have HRW := Lib.hid ho5.rows
                  clear ho5
                  refine hK.out _ _ (⟨feed_cells KA5.out, head_cells KB5.out⟩) (fun hHeld => ?_)
                  clear hK K
                  (try simp only [Act.put, List.setIfInBounds_toArray, List.set_cons_zero, List.set_cons_succ])
                  refine wpAnyH_take (i := 7) (v := ?zv22) rfl (by kernel_rfl) (by kernel_rfl) (by kernel_rfl) (fun _ _ _ h => h) (Or.inl ⟨by kernel_rfl, ?zy22⟩) (by assumption) ?zr22
                  case zy22 => (intro w hSw; (try dsimp only at hSw); go_simp; try with_reducible rfl)
                  change wpAnyH _ _ _ _ _ _ _ (Act.put _ (some 27) _) _
                  simp only [Act.put, List.setIfInBounds_toArray, List.set_cons_zero, List.set_cons_succ]
                  refine wpAnyH_take (i := 8) (v := ?zv23) rfl (by kernel_rfl) (by kernel_rfl) (by kernel_rfl) (fun _ _ _ h => h) (Or.inl ⟨by kernel_rfl, ?zy23⟩) (by assumption) ?zr23
                  case zy23 => (intro w hSw; (try dsimp only at hSw); go_simp; try with_reducible rfl)
                  change wpAnyH _ _ _ _ _ _ _ (Act.put _ (some 35) _) _
                  simp only [Act.put, List.setIfInBounds_toArray, List.set_cons_zero, List.set_cons_succ]
                  refine wpAnyH_take (i := 9) (v := ?zv24) rfl (by kernel_rfl) (by kernel_rfl) (by kernel_rfl) (fun _ _ _ h => h) (Or.inl ⟨by kernel_rfl, ?zy24⟩) (by assumption) ?zr24
                  case zy24 => (intro w hSw; (try dsimp only at hSw); go_simp; try with_reducible rfl)
                  change wpAnyH _ _ _ _ _ _ _ (Act.put _ (some 36) _) _
                  simp only [Act.put, List.setIfInBounds_toArray, List.set_cons_zero, List.set_cons_succ]
                  refine wpAnyH_ready (rs := [11]) (by kernel_rfl) (by simp) (AllReadyH.cons rfl (fun K hK => ?zo25_0) AllReadyH.nil)
                  case zo25_0 =>
                    go_simp
                    obtain ⟨n0, n1, n2, n3, n4, n5⟩ := feed_cells KT5.out
                    have nf := blk_frozen KT5.out
                    obtain ⟨U6, HU6⟩ : ∃ U, Hid (((((((U5.setCell ⟨U2.heap.size, 0, none⟩ (.int .i64 op)).setCell ⟨U2.heap.size, 1, none⟩ (.int .i64 ol)).setCell ⟨U2.heap.size, 2, none⟩ (.int .i64 od)).setCell ⟨U2.heap.size, 3, none⟩ (.int .i64 os)).setCell ⟨U2.heap.size, 4, none⟩ (.slice RA mb rc)).setCell ⟨U2.heap.size, 5, none⟩ (.slice RB mh rd)) = U) := ⟨_, rfl⟩
                    have ho6 : ∀ i, i ≠ U2.heap.size → U6.heap[i]? = U5.heap[i]? := by rw [← HU6.out]; exact six_other _ _ _ _ _ _ _ _
                    have hq6 : Below U0.heap.size U5 U6 := by rw [← HU6.out]; exact below_six (Below.refl _ _) (by omega) _ _ _ _ _ _
                    have KT6 : Hid (Blk U6 U2.heap.size 28 (feedC op ol od os RA mb rc RB mh rd)) := by rw [← HU6.out]; exact blk_six KT5.out _ _ _ _ _ _
                    have RW6 : Hid (OwnFeed U6 _ RA rc RB rd obs ohs) := RW5.out.blocks fun r hr => ho6 r (by have := HRW.out r hr; omega)
                    have KA6 := Lib.hid (KA5.out.below hq6 KA0.out.lt)
                    have KB6 := Lib.hid (KB5.out.below hq6 KB0.out.lt)
                    have HB6 : Hid (Below w.heap.size w U6) := HB5.out.trans (hq6.mono HB0.out.size)
                    go_simp
                    rw [HU6.out]
                    refine hK.out _ _ (⟨feed_cells KA6.out, head_cells KB6.out⟩) (fun hHeld => ?_)
                    clear hK K
                    (try simp only [Act.put])
                    refine wpAnyH_take (i := 12) (v := ?zv26) rfl (by kernel_rfl) (by kernel_rfl) (by kernel_rfl) (fun _ _ _ h => h) (Or.inl ⟨by kernel_rfl, ?zy26⟩) (by assumption) ?zr26
                    case zy26 => (intro w hSw; (try dsimp only at hSw); go_simp; try with_reducible rfl)
                    change wpAnyH _ _ _ _ _ _ _ (Act.put _ (some 9) _) _
                    simp only [Act.put, List.setIfInBounds_toArray, List.set_cons_zero, List.set_cons_succ]
                    refine wpAnyH_done (by kernel_rfl) ?_ _
                    (try go_wp2_with fail)
                    go_meet
                    exact ⟨_, RA, rc, RB, rd, rfl, rfl, by omega, KT6, Lib.hid (RW6.out.base_le (by omega)), KA6, KB6, HB6⟩
          case zo5_1 =>
            go_simp
            refine hK.out _ _ (⟨feed_cells (KA1.out.alloc _), head_cells (KB1.out.alloc _)⟩) (fun hHeld => ?_)
            clear hK K
            (try simp only [Act.put, List.setIfInBounds_toArray, List.set_cons_zero, List.set_cons_succ])
            obtain ⟨U2, HU2⟩ : ∃ U, Hid (U1.alloc (.cells (feedC 0 0 0 0 none 0 0 none 0 0) 28) = U) := ⟨_, rfl⟩
            have hb2 : Below U1.heap.size U1 U2 := by rw [← HU2.out]; exact (Below.refl _ _).alloc (Nat.le_refl _) _
            have KA2 := Lib.hid (KA1.out.below hb2 KA1.out.lt)
            have KB2 := Lib.hid (KB1.out.below hb2 KB1.out.lt)
            have HB2 : Hid (Below w.heap.size w U2) := HB1.out.trans (hb2.mono HB1.out.size)
            have TF2 := Lib.hid (TF1.out.below hb2)
            have hs2 : U1.heap.size ≤ U2.heap.size := hb2.size
            have KT2 : Hid (Blk U2 U1.heap.size 28 (feedC 0 0 0 0 none 0 0 none 0 0)) := by rw [← HU2.out]; exact Blk.new U1 _ _
            have hz2 : U1.heap.size < U2.heap.size := KT2.out.lt
            rw [HU2.out] at hHeld ⊢
            refine wpAnyH_ready (rs := [3]) (by kernel_rfl) (by simp) (AllReadyH.cons rfl (fun K hK => ?zo27_0) AllReadyH.nil)
            case zo27_0 =>
              go_simp
              go_at_call 24
              refine (toHead_any hl hd ht U2).mono ?_
              rintro e U3 ⟨rfl, hb3⟩
              have KA3 := Lib.hid (KA2.out.below hb3 KA2.out.lt)
              have KB3 := Lib.hid (KB2.out.below hb3 KB2.out.lt)
              have HB3 : Hid (Below w.heap.size w U3) := HB2.out.trans (hb3.mono HB2.out.size)
              have TF3 := Lib.hid (TF2.out.below hb3)
              have KT3 := Lib.hid (KT2.out.below hb3 KT2.out.lt)
              have hs3 : U2.heap.size ≤ U3.heap.size := hb3.size
              refine hK.out _ _ (⟨feed_cells KA3.out, head_cells KB3.out⟩) (fun hHeld => ?_)
              clear hK K
              (try simp only [Act.put, List.setIfInBounds_toArray, List.set_cons_zero, List.set_cons_succ])
              refine wpAnyH_ready (rs := [5]) (by kernel_rfl) (by simp) (AllReadyH.cons rfl (fun K hK => ?zo28_0) AllReadyH.nil)
              case zo28_0 =>
                go_simp
                go_at_call 25
                refine (CZ.out U3 HB3.out).mono ?_
                rintro e U4 ⟨tg, rfl, -, ho4, hb4⟩
                have KA4 := Lib.hid (KA3.out.below hb4 KA3.out.lt)
                have KB4 := Lib.hid (KB3.out.below hb4 KB3.out.lt)
                have HB4 : Hid (Below w.heap.size w U4) := HB3.out.trans (hb4.mono HB3.out.size)
                have TF4 := Lib.hid (TF3.out.below hb4)
                have KT4 := Lib.hid (KT3.out.below hb4 KT3.out.lt)
                have hs4 : U3.heap.size ≤ U4.heap.size := hb4.size
                have TI4 := Lib.hid ho4
                clear ho4
                refine hK.out _ _ (⟨feed_cells KA4.out, head_cells KB4.out⟩) (fun hHeld => ?_)
                clear hK K
                (try simp only [Act.put, List.setIfInBounds_toArray, List.set_cons_zero, List.set_cons_succ])
                refine wpAnyH_ready (rs := [6]) (by kernel_rfl) (by simp) (AllReadyH.cons rfl (fun K hK => ?zo29_0) AllReadyH.nil)
                case zo29_0 =>
                  go_simp
                  go_at_call 13
                  refine (sfeedHead_n p l d s (some ⟨ta, 0, none⟩) nb (some ⟨tb, 0, none⟩) nh bs hs hl hd ht (some ⟨tg, 0, none⟩) ng zs U4 (by have k := GI.out _ _ _ TI4.out; exact k) TF4.out.at_ (fun e => by cases e) (fun e => by cases e) HNB.out HNH.out HNG.out HO.out HMB.out HMH.out HC.out).mono ?_
                  rintro e U5 ⟨RA, rc, RB, rd, rfl, ho5, hb5⟩
                  have KA5 := Lib.hid (KA4.out.below hb5 KA4.out.lt)
                  have KB5 := Lib.hid (KB4.out.below hb5 KB4.out.lt)
                  have HB5 : Hid (Below w.heap.size w U5) := HB4.out.trans (hb5.mono HB4.out.size)
                  have TF5 := Lib.hid (TF4.out.below hb5)
                  have KT5 := Lib.hid (KT4.out.below hb5 KT4.out.lt)
                  have TI5 := Lib.hid (TI4.out.below hb5)
                  have hs5 : U4.heap.size ≤ U5.heap.size := hb5.size
                  have RW5 := Lib.hid ho5
                  have HRW := Lib.hid ho5.rows
                  clear ho5
                  refine hK.out _ _ (⟨feed_cells KA5.out, head_cells KB5.out⟩) (fun hHeld => ?_)
                  clear hK K
                  (try simp only [Act.put, List.setIfInBounds_toArray, List.set_cons_zero, List.set_cons_succ])
                  refine wpAnyH_take (i := 7) (v := ?zv30) rfl (by kernel_rfl) (by kernel_rfl) (by kernel_rfl) (fun _ _ _ h => h) (Or.inl ⟨by kernel_rfl, ?zy30⟩) (by assumption) ?zr30
                  case zy30 => (intro w hSw; (try dsimp only at hSw); go_simp; try with_reducible rfl)
                  change wpAnyH _ _ _ _ _ _ _ (Act.put _ (some 27) _) _
                  simp only [Act.put, List.setIfInBounds_toArray, List.set_cons_zero, List.set_cons_succ]
                  refine wpAnyH_take (i := 8) (v := ?zv31) rfl (by kernel_rfl) (by kernel_rfl) (by kernel_rfl) (fun _ _ _ h => h) (Or.inl ⟨by kernel_rfl, ?zy31⟩) (by assumption) ?zr31
                  case zy31 => (intro w hSw; (try dsimp only at hSw); go_simp; try with_reducible rfl)
                  change wpAnyH _ _ _ _ _ _ _ (Act.put _ (some 35) _) _
                  simp only [Act.put, List.setIfInBounds_toArray, List.set_cons_zero, List.set_cons_succ]
                  refine wpAnyH_take (i := 9) (v := ?zv32) rfl (by kernel_rfl) (by kernel_rfl) (by kernel_rfl) (fun _ _ _ h => h) (Or.inl ⟨by kernel_rfl, ?zy32⟩) (by assumption) ?zr32
                  case zy32 => (intro w hSw; (try dsimp only at hSw); go_simp; try with_reducible rfl)
                  change wpAnyH _ _ _ _ _ _ _ (Act.put _ (some 36) _) _
                  simp only [Act.put, List.setIfInBounds_toArray, List.set_cons_zero, List.set_cons_succ]
                  refine wpAnyH_ready (rs := [11]) (by kernel_rfl) (by simp) (AllReadyH.cons rfl (fun K hK => ?zo33_0) AllReadyH.nil)
                  case zo33_0 =>
                    go_simp
                    obtain ⟨n0, n1, n2, n3, n4, n5⟩ := feed_cells KT5.out
                    have nf := blk_frozen KT5.out
                    obtain ⟨U6, HU6⟩ : ∃ U, Hid (((((((U5.setCell ⟨U1.heap.size, 0, none⟩ (.int .i64 op)).setCell ⟨U1.heap.size, 1, none⟩ (.int .i64 ol)).setCell ⟨U1.heap.size, 2, none⟩ (.int .i64 od)).setCell ⟨U1.heap.size, 3, none⟩ (.int .i64 os)).setCell ⟨U1.heap.size, 4, none⟩ (.slice RA mb rc)).setCell ⟨U1.heap.size, 5, none⟩ (.slice RB mh rd)) = U) := ⟨_, rfl⟩
                    have ho6 : ∀ i, i ≠ U1.heap.size → U6.heap[i]? = U5.heap[i]? := by rw [← HU6.out]; exact six_other _ _ _ _ _ _ _ _
                    have hq6 : Below U0.heap.size U5 U6 := by rw [← HU6.out]; exact below_six (Below.refl _ _) (by omega) _ _ _ _ _ _
                    have KT6 : Hid (Blk U6 U1.heap.size 28 (feedC op ol od os RA mb rc RB mh rd)) := by rw [← HU6.out]; exact blk_six KT5.out _ _ _ _ _ _
                    have RW6 : Hid (OwnFeed U6 _ RA rc RB rd obs ohs) := RW5.out.blocks fun r hr => ho6 r (by have := HRW.out r hr; omega)
                    have KA6 := Lib.hid (KA5.out.below hq6 KA0.out.lt)
                    have KB6 := Lib.hid (KB5.out.below hq6 KB0.out.lt)
                    have HB6 : Hid (Below w.heap.size w U6) := HB5.out.trans (hq6.mono HB0.out.size)
                    go_simp
                    rw [HU6.out]
                    refine hK.out _ _ (⟨feed_cells KA6.out, head_cells KB6.out⟩) (fun hHeld => ?_)
                    clear hK K
                    (try simp only [Act.put])
                    refine wpAnyH_take (i := 12) (v := ?zv34) rfl (by kernel_rfl) (by kernel_rfl) (by kernel_rfl) (fun _ _ _ h => h) (Or.inl ⟨by kernel_rfl, ?zy34⟩) (by assumption) ?zr34
                    case zy34 => (intro w hSw; (try dsimp only at hSw); go_simp; try with_reducible rfl)
                    change wpAnyH _ _ _ _ _ _ _ (Act.put _ (some 9) _) _
                    simp only [Act.put, List.setIfInBounds_toArray, List.set_cons_zero, List.set_cons_succ]
                    refine wpAnyH_done (by kernel_rfl) ?_ _
                    (try go_wp2_with fail)
                    go_meet
                    exact ⟨_, RA, rc, RB, rd, rfl, rfl, by omega, KT6, Lib.hid (RW6.out.base_le (by omega)), KA6, KB6, HB6⟩
        case zo4_1 =>
          go_simp
          refine hK.out _ _ (⟨feed_cells (KA0.out.alloc _), head_cells (KB0.out.alloc _)⟩) (fun hHeld => ?_)
          clear hK K
          (try simp only [Act.put, List.setIfInBounds_toArray, List.set_cons_zero, List.set_cons_succ])
          obtain ⟨U1, HU1⟩ : ∃ U, Hid (U0.alloc (.cells (feedC 0 0 0 0 none 0 0 none 0 0) 28) = U) := ⟨_, rfl⟩
          have hb1 : Below U0.heap.size U0 U1 := by rw [← HU1.out]; exact (Below.refl _ _).alloc (Nat.le_refl _) _
          have KA1 := Lib.hid (KA0.out.below hb1 KA0.out.lt)
          have KB1 := Lib.hid (KB0.out.below hb1 KB0.out.lt)
          have HB1 : Hid (Below w.heap.size w U1) := HB0.out.trans (hb1.mono HB0.out.size)
          have hs1 : U0.heap.size ≤ U1.heap.size := hb1.size
          have KT1 : Hid (Blk U1 U0.heap.size 28 (feedC 0 0 0 0 none 0 0 none 0 0)) := by rw [← HU1.out]; exact Blk.new U0 _ _
          have hz1 : U0.heap.size < U1.heap.size := KT1.out.lt
          rw [HU1.out] at hHeld ⊢
          refine wpAnyH_ready (rs := [1]) (by kernel_rfl) (by simp) (AllReadyH.cons rfl (fun K hK => ?zo35_0) AllReadyH.nil)
          case zo35_0 =>
            go_simp
            go_at_call 23
            refine (CA.out U1 HB1.out).mono ?_
            rintro e U2 ⟨ta, tb, rfl, ho2, hb2⟩
            have KA2 := Lib.hid (KA1.out.below hb2 KA1.out.lt)
            have KB2 := Lib.hid (KB1.out.below hb2 KB1.out.lt)
            have HB2 : Hid (Below w.heap.size w U2) := HB1.out.trans (hb2.mono HB1.out.size)
            have KT2 := Lib.hid (KT1.out.below hb2 KT1.out.lt)
            have hs2 : U1.heap.size ≤ U2.heap.size := hb2.size
            have TF2 := Lib.hid ho2
            clear ho2
            refine hK.out _ _ (⟨feed_cells KA2.out, head_cells KB2.out⟩) (fun hHeld => ?_)
            clear hK K
            (try simp only [Act.put, List.setIfInBounds_toArray, List.set_cons_zero, List.set_cons_succ])
            refine wpAnyH_ready (rs := [3]) (by kernel_rfl) (by simp) (AllReadyH.cons rfl (fun K hK => ?zo36_0) AllReadyH.nil)
            case zo36_0 =>
              go_simp
              go_at_call 24
              refine (toHead_any hl hd ht U2).mono ?_
              rintro e U3 ⟨rfl, hb3⟩
              have KA3 := Lib.hid (KA2.out.below hb3 KA2.out.lt)
              have KB3 := Lib.hid (KB2.out.below hb3 KB2.out.lt)
              have HB3 : Hid (Below w.heap.size w U3) := HB2.out.trans (hb3.mono HB2.out.size)
              have KT3 := Lib.hid (KT2.out.below hb3 KT2.out.lt)
              have TF3 := Lib.hid (TF2.out.below hb3)
              have hs3 : U2.heap.size ≤ U3.heap.size := hb3.size
              refine hK.out _ _ (⟨feed_cells KA3.out, head_cells KB3.out⟩) (fun hHeld => ?_)
              clear hK K
              (try simp only [Act.put, List.setIfInBounds_toArray, List.set_cons_zero, List.set_cons_succ])
              refine wpAnyH_ready (rs := [5]) (by kernel_rfl) (by simp) (AllReadyH.cons rfl (fun K hK => ?zo37_0) AllReadyH.nil)
              case zo37_0 =>
                go_simp
                go_at_call 25
                refine (CZ.out U3 HB3.out).mono ?_
                rintro e U4 ⟨tg, rfl, -, ho4, hb4⟩
                have KA4 := Lib.hid (KA3.out.below hb4 KA3.out.lt)
                have KB4 := Lib.hid (KB3.out.below hb4 KB3.out.lt)
                have HB4 : Hid (Below w.heap.size w U4) := HB3.out.trans (hb4.mono HB3.out.size)
                have KT4 := Lib.hid (KT3.out.below hb4 KT3.out.lt)
                have TF4 := Lib.hid (TF3.out.below hb4)
                have hs4 : U3.heap.size ≤ U4.heap.size := hb4.size
                have TI4 := Lib.hid ho4
                clear ho4
                refine hK.out _ _ (⟨feed_cells KA4.out, head_cells KB4.out⟩) (fun hHeld => ?_)
                clear hK K
                (try simp only [Act.put, List.setIfInBounds_toArray, List.set_cons_zero, List.set_cons_succ])
                refine wpAnyH_ready (rs := [6]) (by kernel_rfl) (by simp) (AllReadyH.cons rfl (fun K hK => ?zo38_0) AllReadyH.nil)
                case zo38_0 =>
                  go_simp
                  go_at_call 13
                  refine (sfeedHead_n p l d s (some ⟨ta, 0, none⟩) nb (some ⟨tb, 0, none⟩) nh bs hs hl hd ht (some ⟨tg, 0, none⟩) ng zs U4 (by have k := GI.out _ _ _ TI4.out; exact k) TF4.out.at_ (fun e => by cases e) (fun e => by cases e) HNB.out HNH.out HNG.out HO.out HMB.out HMH.out HC.out).mono ?_
                  rintro e U5 ⟨RA, rc, RB, rd, rfl, ho5, hb5⟩
                  have KA5 := Lib.hid (KA4.out.below hb5 KA4.out.lt)
                  have KB5 := Lib.hid (KB4.out.below hb5 KB4.out.lt)
                  have HB5 : Hid (Below w.heap.size w U5) := HB4.out.trans (hb5.mono HB4.out.size)
                  have KT5 := Lib.hid (KT4.out.below hb5 KT4.out.lt)
                  have TF5 := Lib.hid (TF4.out.below hb5)
                  have TI5 := Lib.hid (TI4.out.below hb5)
                  have hs5 : U4.heap.size ≤ U5.heap.size := hb5.size
                  have RW5 := Lib.hid ho5
                  have HRW := Lib.hid ho5.rows
                  clear ho5
                  refine hK.out _ _ (⟨feed_cells KA5.out, head_cells KB5.out⟩) (fun hHeld => ?_)
                  clear hK K
                  (try simp only [Act.put, List.setIfInBounds_toArray, List.set_cons_zero, List.set_cons_succ])
                  refine wpAnyH_take (i := 7) (v := ?zv39) rfl (by kernel_rfl) (by kernel_rfl) (by kernel_rfl) (fun _ _ _ h => h) (Or.inl ⟨by kernel_rfl, ?zy39⟩) (by assumption) ?zr39
                  case zy39 => (intro w hSw; (try dsimp only at hSw); go_simp; try with_reducible rfl)
                  change wpAnyH _ _ _ _ _ _ _ (Act.put _ (some 27) _) _
                  simp only [Act.put, List.setIfInBounds_toArray, List.set_cons_zero, List.set_cons_succ]
                  refine wpAnyH_take (i := 8) (v := ?zv40) rfl (by kernel_rfl) (by kernel_rfl) (by kernel_rfl) (fun _ _ _ h => h) (Or.inl ⟨by kernel_rfl, ?zy40⟩) (by assumption) ?zr40
                  case zy40 => (intro w hSw; (try dsimp only at hSw); go_simp; try with_reducible rfl)
                  change wpAnyH _ _ _ _ _ _ _ (Act.put _ (some 35) _) _
                  simp only [Act.put, List.setIfInBounds_toArray, List.set_cons_zero, List.set_cons_succ]
                  refine wpAnyH_take (i := 9) (v := ?zv41) rfl (by kernel_rfl) (by kernel_rfl) (by kernel_rfl) (fun _ _ _ h => h) (Or.inl ⟨by kernel_rfl, ?zy41⟩) (by assumption) ?zr41
                  case zy41 => (intro w hSw; (try dsimp only at hSw); go_simp; try with_reducible rfl)
                  change wpAnyH _ _ _ _ _ _ _ (Act.put _ (some 36) _) _
                  simp only [Act.put, List.setIfInBounds_toArray, List.set_cons_zero, List.set_cons_succ]
                  refine wpAnyH_ready (rs := [11]) (by kernel_rfl) (by simp) (AllReadyH.cons rfl (fun K hK => ?zo42_0) AllReadyH.nil)
                  case zo42_0 =>
                    go_simp
                    obtain ⟨n0, n1, n2, n3, n4, n5⟩ := feed_cells KT5.out
                    have nf := blk_frozen KT5.out
                    obtain ⟨U6, HU6⟩ : ∃ U, Hid (((((((U5.setCell ⟨U0.heap.size, 0, none⟩ (.int .i64 op)).setCell ⟨U0.heap.size, 1, none⟩ (.int .i64 ol)).setCell ⟨U0.heap.size, 2, none⟩ (.int .i64 od)).setCell ⟨U0.heap.size, 3, none⟩ (.int .i64 os)).setCell ⟨U0.heap.size, 4, none⟩ (.slice RA mb rc)).setCell ⟨U0.heap.size, 5, none⟩ (.slice RB mh rd)) = U) := ⟨_, rfl⟩
                    have ho6 : ∀ i, i ≠ U0.heap.size → U6.heap[i]? = U5.heap[i]? := by rw [← HU6.out]; exact six_other _ _ _ _ _ _ _ _
                    have hq6 : Below U0.heap.size U5 U6 := by rw [← HU6.out]; exact below_six (Below.refl _ _) (by omega) _ _ _ _ _ _
                    have KT6 : Hid (Blk U6 U0.heap.size 28 (feedC op ol od os RA mb rc RB mh rd)) := by rw [← HU6.out]; exact blk_six KT5.out _ _ _ _ _ _
                    have RW6 : Hid (OwnFeed U6 _ RA rc RB rd obs ohs) := RW5.out.blocks fun r hr => ho6 r (by have := HRW.out r hr; omega)
                    have KA6 := Lib.hid (KA5.out.below hq6 KA0.out.lt)
                    have KB6 := Lib.hid (KB5.out.below hq6 KB0.out.lt)
                    have HB6 : Hid (Below w.heap.size w U6) := HB5.out.trans (hq6.mono HB0.out.size)
                    go_simp
                    rw [HU6.out]
                    refine hK.out _ _ (⟨feed_cells KA6.out, head_cells KB6.out⟩) (fun hHeld => ?_)
                    clear hK K
                    (try simp only [Act.put])
                    refine wpAnyH_take (i := 12) (v := ?zv43) rfl (by kernel_rfl) (by kernel_rfl) (by kernel_rfl) (fun _ _ _ h => h) (Or.inl ⟨by kernel_rfl, ?zy43⟩) (by assumption) ?zr43
                    case zy43 => (intro w hSw; (try dsimp only at hSw); go_simp; try with_reducible rfl)
                    change wpAnyH _ _ _ _ _ _ _ (Act.put _ (some 9) _) _
                    simp only [Act.put, List.setIfInBounds_toArray, List.set_cons_zero, List.set_cons_succ]
                    refine wpAnyH_done (by kernel_rfl) ?_ _
                    (try go_wp2_with fail)
                    go_meet
                    exact ⟨_, RA, rc, RB, rd, rfl, rfl, by omega, KT6, Lib.hid (RW6.out.base_le (by omega)), KA6, KB6, HB6⟩
      case rest =>
      obtain ⟨wa, hwn⟩ : ∃ y, y = wc := ⟨_, rfl⟩
      subst hwn
      obtain ⟨gw, AW, cw, BW, dw, rfl, rfl, hgw, KWc, OWc, KAc, KBc, HBc⟩ := hcut
      have hgwl : gw < wa.heap.size := KWc.out.lt
      have HWL : Hid (∀ g, (AW = some ⟨g, 0, none⟩ ∨ BW = some ⟨g, 0, none⟩) → g < wa.heap.size) := fun g e => (OWc.out.rows g e).2
      have hsc : w.heap.size + 1 < wa.heap.size := KBc.out.lt
      clear KA KB HB KA1 KB1 HB1
      obtain ⟨a0, a1, a2, a3, a4, a5⟩ := feed_cells KAc.out
      go_wp2_with fail
      refine (CA.out _ HBc.out).mono ?_
      rintro e w4 ⟨xa, xb, rfl, ho4, hb4⟩
      have OX4 := Lib.hid ho4
      have hxa := owns_lt ho4.strs xa rfl
      have hxb := ownb_lt ho4.bits xb rfl
      have KA4 := Lib.hid (KAc.out.below hb4 KAc.out.lt)
      have KB4 := Lib.hid (KBc.out.below hb4 KBc.out.lt)
      have HB4 : Hid (Below w.heap.size w w4) := HBc.out.trans (hb4.mono HBc.out.size)
      have KW4 := Lib.hid (KWc.out.below hb4 KWc.out.lt)
      have OW4 := Lib.hid (OWc.out.below hb4)
      have hs4 : wa.heap.size ≤ w4.heap.size := hb4.size
      clear ho4 hb4 a0 a1 a2 a3 a4 a5
      obtain ⟨w5, HU5⟩ : ∃ U, Hid (w4.alloc (.cells (feedC p l d s (some ⟨xa, 0, none⟩) nb nb (some ⟨xb, 0, none⟩) nh nh) 28) = U) := ⟨_, rfl⟩
      have KA5 := Lib.hid (KA4.out.alloc (.cells (feedC p l d s (some ⟨xa, 0, none⟩) nb nb (some ⟨xb, 0, none⟩) nh nh) 28))
      have KB5 := Lib.hid (KB4.out.alloc (.cells (feedC p l d s (some ⟨xa, 0, none⟩) nb nb (some ⟨xb, 0, none⟩) nh nh) 28))
      have HB5 : Hid (Below w.heap.size w (w4.alloc (.cells (feedC p l d s (some ⟨xa, 0, none⟩) nb nb (some ⟨xb, 0, none⟩) nh nh) 28))) := HB4.out.alloc HB4.out.size _
      have KW5 := Lib.hid (KW4.out.alloc (.cells (feedC p l d s (some ⟨xa, 0, none⟩) nb nb (some ⟨xb, 0, none⟩) nh nh) 28))
      have OW5 := Lib.hid (OW4.out.alloc (.cells (feedC p l d s (some ⟨xa, 0, none⟩) nb nb (some ⟨xb, 0, none⟩) nh nh) 28))
      have OX5 := Lib.hid (OX4.out.alloc (.cells (feedC p l d s (some ⟨xa, 0, none⟩) nb nb (some ⟨xb, 0, none⟩) nh nh) 28))
      have hs5 : w4.heap.size < (w4.alloc (.cells (feedC p l d s (some ⟨xa, 0, none⟩) nb nb (some ⟨xb, 0, none⟩) nh nh) 28)).heap.size := by simp
      rw [HU5.out] at hs5 KA5 KB5 HB5 KW5 OW5 OX5
      have KX5 := Lib.hid (Blk.new w4 28 (feedC p l d s (some ⟨xa, 0, none⟩) nb nb (some ⟨xb, 0, none⟩) nh nh))
      rw [HU5.out] at KX5
      go_wp2_with fail
      rw [HU5.out]
      refine (CZ.out _ HB5.out).mono ?_
      rintro e w7 ⟨xg, rfl, hxg, ho7, hb7⟩
      have OI7 := Lib.hid ho7
      have KA7 := Lib.hid (KA5.out.below hb7 KA5.out.lt)
      have KB7 := Lib.hid (KB5.out.below hb7 KB5.out.lt)
      have HB7 : Hid (Below w.heap.size w w7) := HB5.out.trans (hb7.mono HB5.out.size)
      have KW7 := Lib.hid (KW5.out.below hb7 KW5.out.lt)
      have OW7 := Lib.hid (OW5.out.below hb7)
      have OX7 := Lib.hid (OX5.out.below hb7)
      have KX7 := Lib.hid (KX5.out.below hb7 KX5.out.lt)
      have hs7 : w5.heap.size ≤ w7.heap.size := hb7.size
      clear ho7 hb7
      go_upto_region 10 with fail
      go_cut [12, 13] (fun sa sb wx => ∃ (gr : Nat) (RA : Option Addr) (rc : Nat) (RB : Option Addr) (rd : Nat), sa = .pointer (some ⟨gr, 0, none⟩) ∧ sb = .int .i64 C ∧ w7.heap.size ≤ gr ∧ Hid (Blk wx gr 28 (feedC op ol od os RA mb rc RB mh rd)) ∧ Hid (OwnFeed wx (w7.heap.size) RA rc RB rd obs ohs) ∧ Hid (Blk wx w.heap.size 45 (feedC p l d s A1 nb c1 A2 nh c2)) ∧ Hid (Blk wx (w.heap.size + 1) 43 #[.int .i64 hl, .int .i64 hd, .int .i64 ht]) ∧ Hid (Below w.heap.size w wx) ∧ Hid (Blk wx w4.heap.size 28 (feedC p l d s (some ⟨xa, 0, none⟩) nb nb (some ⟨xb, 0, none⟩) nh nh)) ∧ Hid (OwnFeed wx wa.heap.size (some ⟨xa, 0, none⟩) nb (some ⟨xb, 0, none⟩) nh bs hs) ∧ Hid (OwnInts wx w5.heap.size (some ⟨xg, 0, none⟩) ng zs) ∧ Hid (Blk wx gw 28 (feedC op ol od os AW mb cw BW mh dw)) ∧ Hid (OwnFeed wx (w.heap.size + 1 + 1) AW cw BW dw obs ohs))
      case first =>
        (try go_wp2_with fail)
        refine wp_region_held_drew (S := fun w' => (w'.cell? ⟨w4.heap.size, 0, none⟩ = some (.int .i64 p) ∧ w'.cell? ⟨w4.heap.size, 1, none⟩ = some (.int .i64 l) ∧ w'.cell? ⟨w4.heap.size, 2, none⟩ = some (.int .i64 d) ∧ w'.cell? ⟨w4.heap.size, 3, none⟩ = some (.int .i64 s) ∧ w'.cell? ⟨w4.heap.size, 4, none⟩ = some (.slice (some ⟨xa, 0, none⟩) nb nb) ∧ w'.cell? ⟨w4.heap.size, 5, none⟩ = some (.slice (some ⟨xb, 0, none⟩) nh nh)) ∧ (w'.cell? ⟨w.heap.size + 1, 0, none⟩ = some (.int .i64 hl) ∧ w'.cell? ⟨w.heap.size + 1, 1, none⟩ = some (.int .i64 hd) ∧ w'.cell? ⟨w.heap.size + 1, 2, none⟩ = some (.int .i64 ht))) (by kernel_rfl) (⟨feed_cells KX7.out, head_cells KB7.out⟩) (fun hHeld => ?_)
        obtain ⟨U0, HU0⟩ : ∃ U, Hid (w7.drew = U) := ⟨_, rfl⟩
        have KA0 := Lib.hid (KA7.out.below (below_drew (Below.refl _ _)) KA7.out.lt)
        have KB0 := Lib.hid (KB7.out.below (below_drew (Below.refl _ _)) KB7.out.lt)
        have HB0 : Hid (Below w.heap.size w U0) := by rw [← HU0.out]; exact below_drew HB7.out
        have KX0 := Lib.hid (KX7.out.below (below_drew (Below.refl _ _)) KX7.out.lt)
        have OX0 := Lib.hid (OX7.out.below (below_drew (Below.refl _ _)))
        have OI0 := Lib.hid (OI7.out.below (below_drew (Below.refl _ _)))
        have KW0 := Lib.hid (KW7.out.below (below_drew (Below.refl _ _)) KW7.out.lt)
        have OW0 := Lib.hid (OW7.out.below (below_drew (Below.refl _ _)))
        have hzz : w7.heap.size ≤ U0.heap.size := by rw [← HU0.out]; exact Nat.le_refl _
        rw [HU0.out] at hHeld KA0 KB0 KX0 OX0 OI0 KW0 OW0 ⊢
        refine wpAnyH_take (i := 0) (v := ?zv44) rfl (by kernel_rfl) (by kernel_rfl) (by kernel_rfl) (fun _ _ _ h => h) (Or.inl ⟨by kernel_rfl, ?zy44⟩) (by assumption) ?zr44
        case zy44 => (intro w hSw; (try dsimp only at hSw); go_simp; try with_reducible rfl)
        change wpAnyH _ _ _ _ _ _ _ (Act.put _ (some 42) _) _
        simp only [Act.put, List.setIfInBounds_toArray, List.set_cons_zero, List.set_cons_succ]
        refine wpAnyH_take (i := 1) (v := ?zv45) rfl (by kernel_rfl) (by kernel_rfl) (by kernel_rfl) (fun _ _ _ h => h) (Or.inl ⟨by kernel_rfl, ?zy45⟩) (by assumption) ?zr45
        case zy45 => (intro w hSw; (try dsimp only at hSw); go_simp; try with_reducible rfl)
        change wpAnyH _ _ _ _ _ _ _ (Act.put _ (some 43) _) _
        simp only [Act.put, List.setIfInBounds_toArray, List.set_cons_zero, List.set_cons_succ]
        refine wpAnyH_take (i := 3) (v := ?zv46) rfl (by kernel_rfl) (by kernel_rfl) (by kernel_rfl) (fun _ _ _ h => h) (Or.inl ⟨by kernel_rfl, ?zy46⟩) (by assumption) ?zr46
        case zy46 => (intro w hSw; (try dsimp only at hSw); go_simp; try with_reducible rfl)
        change wpAnyH _ _ _ _ _ _ _ (Act.put _ (some 45) _) _
        simp only [Act.put, List.setIfInBounds_toArray, List.set_cons_zero, List.set_cons_succ]
        refine wpAnyH_ready (rs := [2, 8]) (by kernel_rfl) (by simp) (AllReadyH.cons rfl (fun K hK => ?zo47_0) (AllReadyH.cons rfl (fun K hK => ?zo47_1) AllReadyH.nil))
        case zo47_0 =>
          go_simp
          go_at_call 24
          refine (toHead_any hl hd ht U0).mono ?_
          rintro e U1 ⟨rfl, hb1⟩
          have KA1 := Lib.hid (KA0.out.below hb1 KA0.out.lt)
          have KB1 := Lib.hid (KB0.out.below hb1 KB0.out.lt)
          have HB1 : Hid (Below w.heap.size w U1) := HB0.out.trans (hb1.mono HB0.out.size)
          have KX1 := Lib.hid (KX0.out.below hb1 KX0.out.lt)
          have OX1 := Lib.hid (OX0.out.below hb1)
          have OI1 := Lib.hid (OI0.out.below hb1)
          have KW1 := Lib.hid (KW0.out.below hb1 KW0.out.lt)
          have OW1 := Lib.hid (OW0.out.below hb1)
          have hs1 : U0.heap.size ≤ U1.heap.size := hb1.size
          refine hK.out _ _ (⟨feed_cells KX1.out, head_cells KB1.out⟩) (fun hHeld => ?_)
          clear hK K
          (try simp only [Act.put, List.setIfInBounds_toArray, List.set_cons_zero, List.set_cons_succ])
          refine wpAnyH_ready (rs := [4, 8]) (by kernel_rfl) (by simp) (AllReadyH.cons rfl (fun K hK => ?zo48_0) (AllReadyH.cons rfl (fun K hK => ?zo48_1) AllReadyH.nil))
          case zo48_0 =>
            go_simp
            go_at_call 12
            refine (feedHead_n p l d s (some ⟨xa, 0, none⟩) nb (some ⟨xb, 0, none⟩) nh bs hs hl hd ht (some ⟨xg, 0, none⟩) ng zs U1 (hE.out.below HB1.out) (by have k := GI.out _ _ _ OI1.out; exact k) OX1.out.at_ HNB.out HNH.out HNG.out HO.out HMB.out HMH.out HC.out).mono ?_
            rintro e U2 ⟨RA, rc, RB, rd, rfl, ho2, hb2⟩
            have KA2 := Lib.hid (KA1.out.below hb2 KA1.out.lt)
            have KB2 := Lib.hid (KB1.out.below hb2 KB1.out.lt)
            have HB2 : Hid (Below w.heap.size w U2) := HB1.out.trans (hb2.mono HB1.out.size)
            have KX2 := Lib.hid (KX1.out.below hb2 KX1.out.lt)
            have OX2 := Lib.hid (OX1.out.below hb2)
            have OI2 := Lib.hid (OI1.out.below hb2)
            have KW2 := Lib.hid (KW1.out.below hb2 KW1.out.lt)
            have OW2 := Lib.hid (OW1.out.below hb2)
            have hs2 : U1.heap.size ≤ U2.heap.size := hb2.size
            have RW2 := Lib.hid ho2
            have HRW := Lib.hid ho2.rows
            clear ho2
            refine hK.out _ _ (⟨feed_cells KX2.out, head_cells KB2.out⟩) (fun hHeld => ?_)
            clear hK K
            (try simp only [Act.put, List.setIfInBounds_toArray, List.set_cons_zero, List.set_cons_succ])
            refine wpAnyH_take (i := 5) (v := ?zv49) rfl (by kernel_rfl) (by kernel_rfl) (by kernel_rfl) (fun _ _ _ h => h) (Or.inl ⟨by kernel_rfl, ?zy49⟩) (by assumption) ?zr49
            case zy49 => (intro w hSw; (try dsimp only at hSw); go_simp; try with_reducible rfl)
            change wpAnyH _ _ _ _ _ _ _ (Act.put _ (some 41) _) _
            simp only [Act.put, List.setIfInBounds_toArray, List.set_cons_zero, List.set_cons_succ]
            refine wpAnyH_take (i := 6) (v := ?zv50) rfl (by kernel_rfl) (by kernel_rfl) (by kernel_rfl) (fun _ _ _ h => h) (Or.inl ⟨by kernel_rfl, ?zy50⟩) (by assumption) ?zr50
            case zy50 => (intro w hSw; (try dsimp only at hSw); go_simp; try with_reducible rfl)
            change wpAnyH _ _ _ _ _ _ _ (Act.put _ (some 47) _) _
            simp only [Act.put, List.setIfInBounds_toArray, List.set_cons_zero, List.set_cons_succ]
            refine wpAnyH_take (i := 7) (v := ?zv51) rfl (by kernel_rfl) (by kernel_rfl) (by kernel_rfl) (fun _ _ _ h => h) (Or.inl ⟨by kernel_rfl, ?zy51⟩) (by assumption) ?zr51
            case zy51 => (intro w hSw; (try dsimp only at hSw); go_simp; try with_reducible rfl)
            change wpAnyH _ _ _ _ _ _ _ (Act.put _ (some 48) _) _
            simp only [Act.put, List.setIfInBounds_toArray, List.set_cons_zero, List.set_cons_succ]
            refine wpAnyH_ready (rs := [8]) (by kernel_rfl) (by simp) (AllReadyH.cons rfl (fun K hK => ?zo52_0) AllReadyH.nil)
            case zo52_0 =>
              go_simp
              refine hK.out _ _ (⟨feed_cells (KX2.out.alloc _), head_cells (KB2.out.alloc _)⟩) (fun hHeld => ?_)
              clear hK K
              (try simp only [Act.put, List.setIfInBounds_toArray, List.set_cons_zero, List.set_cons_succ])
              obtain ⟨U3, HU3⟩ : ∃ U, Hid (U2.alloc (.cells (feedC 0 0 0 0 none 0 0 none 0 0) 28) = U) := ⟨_, rfl⟩
              have hb3 : Below U2.heap.size U2 U3 := by rw [← HU3.out]; exact (Below.refl _ _).alloc (Nat.le_refl _) _
              have KA3 := Lib.hid (KA2.out.below hb3 KA2.out.lt)
              have KB3 := Lib.hid (KB2.out.below hb3 KB2.out.lt)
              have HB3 : Hid (Below w.heap.size w U3) := HB2.out.trans (hb3.mono HB2.out.size)
              have KX3 := Lib.hid (KX2.out.below hb3 KX2.out.lt)
              have OX3 := Lib.hid (OX2.out.below hb3)
              have OI3 := Lib.hid (OI2.out.below hb3)
              have KW3 := Lib.hid (KW2.out.below hb3 KW2.out.lt)
              have OW3 := Lib.hid (OW2.out.below hb3)
              have RW3 := Lib.hid (RW2.out.below hb3)
              have hs3 : U2.heap.size ≤ U3.heap.size := hb3.size
              have KT3 : Hid (Blk U3 U2.heap.size 28 (feedC 0 0 0 0 none 0 0 none 0 0)) := by rw [← HU3.out]; exact Blk.new U2 _ _
              have hz3 : U2.heap.size < U3.heap.size := KT3.out.lt
              rw [HU3.out] at hHeld ⊢
              refine wpAnyH_ready (rs := [9]) (by kernel_rfl) (by simp) (AllReadyH.cons rfl (fun K hK => ?zo53_0) AllReadyH.nil)
              case zo53_0 =>
                go_simp
                obtain ⟨n0, n1, n2, n3, n4, n5⟩ := feed_cells KT3.out
                have nf := blk_frozen KT3.out
                obtain ⟨U4, HU4⟩ : ∃ U, Hid (((((((U3.setCell ⟨U2.heap.size, 0, none⟩ (.int .i64 op)).setCell ⟨U2.heap.size, 1, none⟩ (.int .i64 ol)).setCell ⟨U2.heap.size, 2, none⟩ (.int .i64 od)).setCell ⟨U2.heap.size, 3, none⟩ (.int .i64 os)).setCell ⟨U2.heap.size, 4, none⟩ (.slice RA mb rc)).setCell ⟨U2.heap.size, 5, none⟩ (.slice RB mh rd)) = U) := ⟨_, rfl⟩
                have ho4 : ∀ i, i ≠ U2.heap.size → U4.heap[i]? = U3.heap[i]? := by rw [← HU4.out]; exact six_other _ _ _ _ _ _ _ _
                have hq4 : Below U0.heap.size U3 U4 := by rw [← HU4.out]; exact below_six (Below.refl _ _) (by omega) _ _ _ _ _ _
                have KT4 : Hid (Blk U4 U2.heap.size 28 (feedC op ol od os RA mb rc RB mh rd)) := by rw [← HU4.out]; exact blk_six KT3.out _ _ _ _ _ _
                have RW4 : Hid (OwnFeed U4 _ RA rc RB rd obs ohs) := RW3.out.blocks fun r hr => ho4 r (by have := HRW.out r hr; omega)
                have KA4 := Lib.hid (KA3.out.below hq4 KA0.out.lt)
                have KB4 := Lib.hid (KB3.out.below hq4 KB0.out.lt)
                have HB4 : Hid (Below w.heap.size w U4) := HB3.out.trans (hq4.mono HB0.out.size)
                have KX4 := Lib.hid (KX3.out.below hq4 KX0.out.lt)
                have OX4 := Lib.hid (OX3.out.blocks fun r hr => ho4 r (by have := OX0.out.rows r hr; omega))
                have OI4 := Lib.hid (own_block OI3.out fun r hr => ho4 r (by have := own_lt OI0.out r hr; omega))
                have KW4 := Lib.hid (KW3.out.below hq4 KW0.out.lt)
                have OW4 := Lib.hid (OW3.out.blocks fun r hr => ho4 r (by have := OW0.out.rows r hr; omega))
                go_simp
                rw [HU4.out]
                refine hK.out _ _ (⟨feed_cells KX4.out, head_cells KB4.out⟩) (fun hHeld => ?_)
                clear hK K
                (try simp only [Act.put])
                refine wpAnyH_take (i := 10) (v := ?zv54) rfl (by kernel_rfl) (by kernel_rfl) (by kernel_rfl) (fun _ _ _ h => h) (Or.inl ⟨by kernel_rfl, ?zy54⟩) (by assumption) ?zr54
                case zy54 => (intro w hSw; (try dsimp only at hSw); go_simp; try with_reducible rfl)
                change wpAnyH _ _ _ _ _ _ _ (Act.put _ (some 13) _) _
                simp only [Act.put, List.setIfInBounds_toArray, List.set_cons_zero, List.set_cons_succ]
                refine wpAnyH_done (by kernel_rfl) ?_ _
                (try go_wp2_with fail)
                go_meet
                exact ⟨_, RA, rc, RB, rd, rfl, rfl, by omega, KT4, Lib.hid (RW4.out.base_le (by omega)), KA4, KB4, HB4, KX4, OX4, OI4, KW4, OW4⟩
          case zo48_1 =>
            go_simp
            refine hK.out _ _ (⟨feed_cells (KX1.out.alloc _), head_cells (KB1.out.alloc _)⟩) (fun hHeld => ?_)
            clear hK K
            (try simp only [Act.put, List.setIfInBounds_toArray, List.set_cons_zero, List.set_cons_succ])
            obtain ⟨U2, HU2⟩ : ∃ U, Hid (U1.alloc (.cells (feedC 0 0 0 0 none 0 0 none 0 0) 28) = U) := ⟨_, rfl⟩
            have hb2 : Below U1.heap.size U1 U2 := by rw [← HU2.out]; exact (Below.refl _ _).alloc (Nat.le_refl _) _
            have KA2 := Lib.hid (KA1.out.below hb2 KA1.out.lt)
            have KB2 := Lib.hid (KB1.out.below hb2 KB1.out.lt)
            have HB2 : Hid (Below w.heap.size w U2) := HB1.out.trans (hb2.mono HB1.out.size)
            have KX2 := Lib.hid (KX1.out.below hb2 KX1.out.lt)
            have OX2 := Lib.hid (OX1.out.below hb2)
            have OI2 := Lib.hid (OI1.out.below hb2)
            have KW2 := Lib.hid (KW1.out.below hb2 KW1.out.lt)
            have OW2 := Lib.hid (OW1.out.below hb2)
            have hs2 : U1.heap.size ≤ U2.heap.size := hb2.size
            have KT2 : Hid (Blk U2 U1.heap.size 28 (feedC 0 0 0 0 none 0 0 none 0 0)) := by rw [← HU2.out]; exact Blk.new U1 _ _
            have hz2 : U1.heap.size < U2.heap.size := KT2.out.lt
            rw [HU2.out] at hHeld ⊢
            refine wpAnyH_ready (rs := [4]) (by kernel_rfl) (by simp) (AllReadyH.cons rfl (fun K hK => ?zo55_0) AllReadyH.nil)
            case zo55_0 =>
              go_simp
              go_at_call 12
              refine (feedHead_n p l d s (some ⟨xa, 0, none⟩) nb (some ⟨xb, 0, none⟩) nh bs hs hl hd ht (some ⟨xg, 0, none⟩) ng zs U2 (hE.out.below HB2.out) (by have k := GI.out _ _ _ OI2.out; exact k) OX2.out.at_ HNB.out HNH.out HNG.out HO.out HMB.out HMH.out HC.out).mono ?_
              rintro e U3 ⟨RA, rc, RB, rd, rfl, ho3, hb3⟩
              have KA3 := Lib.hid (KA2.out.below hb3 KA2.out.lt)
              have KB3 := Lib.hid (KB2.out.below hb3 KB2.out.lt)
              have HB3 : Hid (Below w.heap.size w U3) := HB2.out.trans (hb3.mono HB2.out.size)
              have KX3 := Lib.hid (KX2.out.below hb3 KX2.out.lt)
              have OX3 := Lib.hid (OX2.out.below hb3)
              have OI3 := Lib.hid (OI2.out.below hb3)
              have KW3 := Lib.hid (KW2.out.below hb3 KW2.out.lt)
              have OW3 := Lib.hid (OW2.out.below hb3)
              have KT3 := Lib.hid (KT2.out.below hb3 KT2.out.lt)
              have hs3 : U2.heap.size ≤ U3.heap.size := hb3.size
              have RW3 := Lib.hid ho3
              have HRW := Lib.hid ho3.rows
              clear ho3
              refine hK.out _ _ (⟨feed_cells KX3.out, head_cells KB3.out⟩) (fun hHeld => ?_)
              clear hK K
              (try simp only [Act.put, List.setIfInBounds_toArray, List.set_cons_zero, List.set_cons_succ])
              refine wpAnyH_take (i := 5) (v := ?zv56) rfl (by kernel_rfl) (by kernel_rfl) (by kernel_rfl) (fun _ _ _ h => h) (Or.inl ⟨by kernel_rfl, ?zy56⟩) (by assumption) ?zr56
              case zy56 => (intro w hSw; (try dsimp only at hSw); go_simp; try with_reducible rfl)
              change wpAnyH _ _ _ _ _ _ _ (Act.put _ (some 41) _) _
              simp only [Act.put, List.setIfInBounds_toArray, List.set_cons_zero, List.set_cons_succ]
              refine wpAnyH_take (i := 6) (v := ?zv57) rfl (by kernel_rfl) (by kernel_rfl) (by kernel_rfl) (fun _ _ _ h => h) (Or.inl ⟨by kernel_rfl, ?zy57⟩) (by assumption) ?zr57
              case zy57 => (intro w hSw; (try dsimp only at hSw); go_simp; try with_reducible rfl)
              change wpAnyH _ _ _ _ _ _ _ (Act.put _ (some 47) _) _
              simp only [Act.put, List.setIfInBounds_toArray, List.set_cons_zero, List.set_cons_succ]
              refine wpAnyH_take (i := 7) (v := ?zv58) rfl (by kernel_rfl) (by kernel_rfl) (by kernel_rfl) (fun _ _ _ h => h) (Or.inl ⟨by kernel_rfl, ?zy58⟩) (by assumption) ?zr58
              case zy58 => (intro w hSw; (try dsimp only at hSw); go_simp; try with_reducible rfl)
              change wpAnyH _ _ _ _ _ _ _ (Act.put _ (some 48) _) _
              simp only [Act.put, List.setIfInBounds_toArray, List.set_cons_zero, List.set_cons_succ]
              refine wpAnyH_ready (rs := [9]) (by kernel_rfl) (by simp) (AllReadyH.cons rfl (fun K hK => ?zo59_0) AllReadyH.nil)
              case zo59_0 =>
                go_simp
                obtain ⟨n0, n1, n2, n3, n4, n5⟩ := feed_cells KT3.out
                have nf := blk_frozen KT3.out
                obtain ⟨U4, HU4⟩ : ∃ U, Hid (((((((U3.setCell ⟨U1.heap.size, 0, none⟩ (.int .i64 op)).setCell ⟨U1.heap.size, 1, none⟩ (.int .i64 ol)).setCell ⟨U1.heap.size, 2, none⟩ (.int .i64 od)).setCell ⟨U1.heap.size, 3, none⟩ (.int .i64 os)).setCell ⟨U1.heap.size, 4, none⟩ (.slice RA mb rc)).setCell ⟨U1.heap.size, 5, none⟩ (.slice RB mh rd)) = U) := ⟨_, rfl⟩
                have ho4 : ∀ i, i ≠ U1.heap.size → U4.heap[i]? = U3.heap[i]? := by rw [← HU4.out]; exact six_other _ _ _ _ _ _ _ _
                have hq4 : Below U0.heap.size U3 U4 := by rw [← HU4.out]; exact below_six (Below.refl _ _) (by omega) _ _ _ _ _ _
                have KT4 : Hid (Blk U4 U1.heap.size 28 (feedC op ol od os RA mb rc RB mh rd)) := by rw [← HU4.out]; exact blk_six KT3.out _ _ _ _ _ _
                have RW4 : Hid (OwnFeed U4 _ RA rc RB rd obs ohs) := RW3.out.blocks fun r hr => ho4 r (by have := HRW.out r hr; omega)
                have KA4 := Lib.hid (KA3.out.below hq4 KA0.out.lt)
                have KB4 := Lib.hid (KB3.out.below hq4 KB0.out.lt)
                have HB4 : Hid (Below w.heap.size w U4) := HB3.out.trans (hq4.mono HB0.out.size)
                have KX4 := Lib.hid (KX3.out.below hq4 KX0.out.lt)
                have OX4 := Lib.hid (OX3.out.blocks fun r hr => ho4 r (by have := OX0.out.rows r hr; omega))
                have OI4 := Lib.hid (own_block OI3.out fun r hr => ho4 r (by have := own_lt OI0.out r hr; omega))
                have KW4 := Lib.hid (KW3.out.below hq4 KW0.out.lt)
                have OW4 := Lib.hid (OW3.out.blocks fun r hr => ho4 r (by have := OW0.out.rows r hr; omega))
                go_simp
                rw [HU4.out]
                refine hK.out _ _ (⟨feed_cells KX4.out, head_cells KB4.out⟩) (fun hHeld => ?_)
                clear hK K
                (try simp only [Act.put])
                refine wpAnyH_take (i := 10) (v := ?zv60) rfl (by kernel_rfl) (by kernel_rfl) (by kernel_rfl) (fun _ _ _ h => h) (Or.inl ⟨by kernel_rfl, ?zy60⟩) (by assumption) ?zr60
                case zy60 => (intro w hSw; (try dsimp only at hSw); go_simp; try with_reducible rfl)
                change wpAnyH _ _ _ _ _ _ _ (Act.put _ (some 13) _) _
                simp only [Act.put, List.setIfInBounds_toArray, List.set_cons_zero, List.set_cons_succ]
                refine wpAnyH_done (by kernel_rfl) ?_ _
                (try go_wp2_with fail)
                go_meet
                exact ⟨_, RA, rc, RB, rd, rfl, rfl, by omega, KT4, Lib.hid (RW4.out.base_le (by omega)), KA4, KB4, HB4, KX4, OX4, OI4, KW4, OW4⟩
        case zo47_1 =>
          go_simp
          refine hK.out _ _ (⟨feed_cells (KX0.out.alloc _), head_cells (KB0.out.alloc _)⟩) (fun hHeld => ?_)
          clear hK K
          (try simp only [Act.put, List.setIfInBounds_toArray, List.set_cons_zero, List.set_cons_succ])
          obtain ⟨U1, HU1⟩ : ∃ U, Hid (U0.alloc (.cells (feedC 0 0 0 0 none 0 0 none 0 0) 28) = U) := ⟨_, rfl⟩
          have hb1 : Below U0.heap.size U0 U1 := by rw [← HU1.out]; exact (Below.refl _ _).alloc (Nat.le_refl _) _
          have KA1 := Lib.hid (KA0.out.below hb1 KA0.out.lt)
          have KB1 := Lib.hid (KB0.out.below hb1 KB0.out.lt)
          have HB1 : Hid (Below w.heap.size w U1) := HB0.out.trans (hb1.mono HB0.out.size)
          have KX1 := Lib.hid (KX0.out.below hb1 KX0.out.lt)
          have OX1 := Lib.hid (OX0.out.below hb1)
          have OI1 := Lib.hid (OI0.out.below hb1)
          have KW1 := Lib.hid (KW0.out.below hb1 KW0.out.lt)
          have OW1 := Lib.hid (OW0.out.below hb1)
          have hs1 : U0.heap.size ≤ U1.heap.size := hb1.size
          have KT1 : Hid (Blk U1 U0.heap.size 28 (feedC 0 0 0 0 none 0 0 none 0 0)) := by rw [← HU1.out]; exact Blk.new U0 _ _
          have hz1 : U0.heap.size < U1.heap.size := KT1.out.lt
          rw [HU1.out] at hHeld ⊢
          refine wpAnyH_ready (rs := [2]) (by kernel_rfl) (by simp) (AllReadyH.cons rfl (fun K hK => ?zo61_0) AllReadyH.nil)
          case zo61_0 =>
            go_simp
            go_at_call 24
            refine (toHead_any hl hd ht U1).mono ?_
            rintro e U2 ⟨rfl, hb2⟩
            have KA2 := Lib.hid (KA1.out.below hb2 KA1.out.lt)
            have KB2 := Lib.hid (KB1.out.below hb2 KB1.out.lt)
            have HB2 : Hid (Below w.heap.size w U2) := HB1.out.trans (hb2.mono HB1.out.size)
            have KX2 := Lib.hid (KX1.out.below hb2 KX1.out.lt)
            have OX2 := Lib.hid (OX1.out.below hb2)
            have OI2 := Lib.hid (OI1.out.below hb2)
            have KW2 := Lib.hid (KW1.out.below hb2 KW1.out.lt)
            have OW2 := Lib.hid (OW1.out.below hb2)
            have KT2 := Lib.hid (KT1.out.below hb2 KT1.out.lt)
            have hs2 : U1.heap.size ≤ U2.heap.size := hb2.size
            refine hK.out _ _ (⟨feed_cells KX2.out, head_cells KB2.out⟩) (fun hHeld => ?_)
            clear hK K
            (try simp only [Act.put, List.setIfInBounds_toArray, List.set_cons_zero, List.set_cons_succ])
            refine wpAnyH_ready (rs := [4]) (by kernel_rfl) (by simp) (AllReadyH.cons rfl (fun K hK => ?zo62_0) AllReadyH.nil)
            case zo62_0 =>
              go_simp
              go_at_call 12
              refine (feedHead_n p l d s (some ⟨xa, 0, none⟩) nb (some ⟨xb, 0, none⟩) nh bs hs hl hd ht (some ⟨xg, 0, none⟩) ng zs U2 (hE.out.below HB2.out) (by have k := GI.out _ _ _ OI2.out; exact k) OX2.out.at_ HNB.out HNH.out HNG.out HO.out HMB.out HMH.out HC.out).mono ?_
              rintro e U3 ⟨RA, rc, RB, rd, rfl, ho3, hb3⟩
              have KA3 := Lib.hid (KA2.out.below hb3 KA2.out.lt)
              have KB3 := Lib.hid (KB2.out.below hb3 KB2.out.lt)
              have HB3 : Hid (Below w.heap.size w U3) := HB2.out.trans (hb3.mono HB2.out.size)
              have KX3 := Lib.hid (KX2.out.below hb3 KX2.out.lt)
              have OX3 := Lib.hid (OX2.out.below hb3)
              have OI3 := Lib.hid (OI2.out.below hb3)
              have KW3 := Lib.hid (KW2.out.below hb3 KW2.out.lt)
              have OW3 := Lib.hid (OW2.out.below hb3)
              have KT3 := Lib.hid (KT2.out.below hb3 KT2.out.lt)
              have hs3 : U2.heap.size ≤ U3.heap.size := hb3.size
              have RW3 := Lib.hid ho3
              have HRW := Lib.hid ho3.rows
              clear ho3
              refine hK.out _ _ (⟨feed_cells KX3.out, head_cells KB3.out⟩) (fun hHeld => ?_)
              clear hK K
              (try simp only [Act.put, List.setIfInBounds_toArray, List.set_cons_zero, List.set_cons_succ])
              refine wpAnyH_take (i := 5) (v := ?zv63) rfl (by kernel_rfl) (by kernel_rfl) (by kernel_rfl) (fun _ _ _ h => h) (Or.inl ⟨by kernel_rfl, ?zy63⟩) (by assumption) ?zr63
              case zy63 => (intro w hSw; (try dsimp only at hSw); go_simp; try with_reducible rfl)
              change wpAnyH _ _ _ _ _ _ _ (Act.put _ (some 41) _) _
              simp only [Act.put, List.setIfInBounds_toArray, List.set_cons_zero, List.set_cons_succ]
              refine wpAnyH_take (i := 6) (v := ?zv64) rfl (by kernel_rfl) (by kernel_rfl) (by kernel_rfl) (fun _ _ _ h => h) (Or.inl ⟨by kernel_rfl, ?zy64⟩) (by assumption) ?zr64
              case zy64 => (intro w hSw; (try dsimp only at hSw); go_simp; try with_reducible rfl)
              change wpAnyH _ _ _ _ _ _ _ (Act.put _ (some 47) _) _
              simp only [Act.put, List.setIfInBounds_toArray, List.set_cons_zero, List.set_cons_succ]
              refine wpAnyH_take (i := 7) (v := ?zv65) rfl (by kernel_rfl) (by kernel_rfl) (by kernel_rfl) (fun _ _ _ h => h) (Or.inl ⟨by kernel_rfl, ?zy65⟩) (by assumption) ?zr65
              case zy65 => (intro w hSw; (try dsimp only at hSw); go_simp; try with_reducible rfl)
              change wpAnyH _ _ _ _ _ _ _ (Act.put _ (some 48) _) _
              simp only [Act.put, List.setIfInBounds_toArray, List.set_cons_zero, List.set_cons_succ]
              refine wpAnyH_ready (rs := [9]) (by kernel_rfl) (by simp) (AllReadyH.cons rfl (fun K hK => ?zo66_0) AllReadyH.nil)
              case zo66_0 =>
                go_simp
                obtain ⟨n0, n1, n2, n3, n4, n5⟩ := feed_cells KT3.out
                have nf := blk_frozen KT3.out
                obtain ⟨U4, HU4⟩ : ∃ U, Hid (((((((U3.setCell ⟨U0.heap.size, 0, none⟩ (.int .i64 op)).setCell ⟨U0.heap.size, 1, none⟩ (.int .i64 ol)).setCell ⟨U0.heap.size, 2, none⟩ (.int .i64 od)).setCell ⟨U0.heap.size, 3, none⟩ (.int .i64 os)).setCell ⟨U0.heap.size, 4, none⟩ (.slice RA mb rc)).setCell ⟨U0.heap.size, 5, none⟩ (.slice RB mh rd)) = U) := ⟨_, rfl⟩
                have ho4 : ∀ i, i ≠ U0.heap.size → U4.heap[i]? = U3.heap[i]? := by rw [← HU4.out]; exact six_other _ _ _ _ _ _ _ _
                have hq4 : Below U0.heap.size U3 U4 := by rw [← HU4.out]; exact below_six (Below.refl _ _) (by omega) _ _ _ _ _ _
                have KT4 : Hid (Blk U4 U0.heap.size 28 (feedC op ol od os RA mb rc RB mh rd)) := by rw [← HU4.out]; exact blk_six KT3.out _ _ _ _ _ _
                have RW4 : Hid (OwnFeed U4 _ RA rc RB rd obs ohs) := RW3.out.blocks fun r hr => ho4 r (by have := HRW.out r hr; omega)
                have KA4 := Lib.hid (KA3.out.below hq4 KA0.out.lt)
                have KB4 := Lib.hid (KB3.out.below hq4 KB0.out.lt)
                have HB4 : Hid (Below w.heap.size w U4) := HB3.out.trans (hq4.mono HB0.out.size)
                have KX4 := Lib.hid (KX3.out.below hq4 KX0.out.lt)
                have OX4 := Lib.hid (OX3.out.blocks fun r hr => ho4 r (by have := OX0.out.rows r hr; omega))
                have OI4 := Lib.hid (own_block OI3.out fun r hr => ho4 r (by have := own_lt OI0.out r hr; omega))
                have KW4 := Lib.hid (KW3.out.below hq4 KW0.out.lt)
                have OW4 := Lib.hid (OW3.out.blocks fun r hr => ho4 r (by have := OW0.out.rows r hr; omega))
                go_simp
                rw [HU4.out]
                refine hK.out _ _ (⟨feed_cells KX4.out, head_cells KB4.out⟩) (fun hHeld => ?_)
                clear hK K
                (try simp only [Act.put])
                refine wpAnyH_take (i := 10) (v := ?zv67) rfl (by kernel_rfl) (by kernel_rfl) (by kernel_rfl) (fun _ _ _ h => h) (Or.inl ⟨by kernel_rfl, ?zy67⟩) (by assumption) ?zr67
                case zy67 => (intro w hSw; (try dsimp only at hSw); go_simp; try with_reducible rfl)
                change wpAnyH _ _ _ _ _ _ _ (Act.put _ (some 13) _) _
                simp only [Act.put, List.setIfInBounds_toArray, List.set_cons_zero, List.set_cons_succ]
                refine wpAnyH_done (by kernel_rfl) ?_ _
                (try go_wp2_with fail)
                go_meet
                exact ⟨_, RA, rc, RB, rd, rfl, rfl, by omega, KT4, Lib.hid (RW4.out.base_le (by omega)), KA4, KB4, HB4, KX4, OX4, OI4, KW4, OW4⟩
      case rest =>
      obtain ⟨w8, hwn⟩ : ∃ y, y = wc := ⟨_, rfl⟩
      subst hwn
      obtain ⟨gg, AG, cg, BG, dg, rfl, rfl, hgg, KG8, OG8, KA8, KB8, HB8, KX8, OX8, OI8, KW8, OW8⟩ := hcut
      have hggl : gg < w8.heap.size := KG8.out.lt
      have HGL : Hid (∀ g, (AG = some ⟨g, 0, none⟩ ∨ BG = some ⟨g, 0, none⟩) → w7.heap.size ≤ g ∧ g < w8.heap.size) := OG8.out.rows
      have HGN : Hid (∀ g, (AG = some ⟨g, 0, none⟩ ∨ BG = some ⟨g, 0, none⟩) → gg ≠ g) := feed_ne_rows OG8.out KG8.out
      have hs8 : w7.heap.size ≤ w8.heap.size := by omega
      clear KA7 KB7 HB7 KX7 OX7 OI7 KW7 OW7 KAc KBc HBc KWc OWc
      obtain ⟨g0, g1, g2, g3, g4, g5⟩ := feed_cells KG8.out
      obtain ⟨q0, q1, q2, q3, q4, q5⟩ := feed_cells KW8.out
      have hne : (C != C) = false := by simp
      go_wp2_with fail
      refine (eqFeed_n op ol od os AG cg BG dg AW cw BW dw obs ohs w8 OG8.out.at_ OW8.out.at_ HMB.out HMH.out).mono ?_
      rintro e w9 ⟨rfl, hb9⟩
      have KA9 := Lib.hid (KA8.out.below hb9 KA8.out.lt)
      have KB9 := Lib.hid (KB8.out.below hb9 KB8.out.lt)
      have HB9 : Hid (Below w.heap.size w w9) := HB8.out.trans (hb9.mono HB8.out.size)
      have KX9 := Lib.hid (KX8.out.below hb9 KX8.out.lt)
      have OX9 := Lib.hid (OX8.out.below hb9)
      have OI9 := Lib.hid (OI8.out.below hb9)
      have KW9 := Lib.hid (KW8.out.below hb9 KW8.out.lt)
      have OW9 := Lib.hid (OW8.out.below hb9)
      have KG9 := Lib.hid (KG8.out.below hb9 KG8.out.lt)
      have OG9 := Lib.hid (OG8.out.below hb9)
      have hs9 : w8.heap.size ≤ w9.heap.size := hb9.size
      clear g0 g1 g2 g3 g4 g5 q0 q1 q2 q3 q4 q5
      clear hb9
      obtain ⟨x0, x1, x2, x3, x4, x5⟩ := feed_cells KX9.out
      obtain ⟨a0, a1, a2, a3, a4, a5⟩ := feed_cells KA9.out
      go_wp2_with fail
      refine wp_region_held_drew (S := (fun w' => (w'.cell? ⟨w4.heap.size, 0, none⟩ = some (.int .i64 p) ∧ w'.cell? ⟨w4.heap.size, 1, none⟩ = some (.int .i64 l) ∧ w'.cell? ⟨w4.heap.size, 2, none⟩ = some (.int .i64 d) ∧ w'.cell? ⟨w4.heap.size, 3, none⟩ = some (.int .i64 s) ∧ w'.cell? ⟨w4.heap.size, 4, none⟩ = some (.slice (some ⟨xa, 0, none⟩) nb nb) ∧ w'.cell? ⟨w4.heap.size, 5, none⟩ = some (.slice (some ⟨xb, 0, none⟩) nh nh)) ∧ (w'.cell? ⟨w.heap.size, 0, none⟩ = some (.int .i64 p) ∧ w'.cell? ⟨w.heap.size, 1, none⟩ = some (.int .i64 l) ∧ w'.cell? ⟨w.heap.size, 2, none⟩ = some (.int .i64 d) ∧ w'.cell? ⟨w.heap.size, 3, none⟩ = some (.int .i64 s) ∧ w'.cell? ⟨w.heap.size, 4, none⟩ = some (.slice A1 nb c1) ∧ w'.cell? ⟨w.heap.size, 5, none⟩ = some (.slice A2 nh c2)))) (by kernel_rfl) (⟨⟨x0, x1, x2, x3, x4, x5⟩, ⟨a0, a1, a2, a3, a4, a5⟩⟩) (fun hHeld => ?_)
      refine wpAnyH_take (i := 0) (v := ?zv3001) rfl (by kernel_rfl) (by kernel_rfl) (by kernel_rfl) (fun _ _ _ h => h) (Or.inl ⟨by kernel_rfl, ?zy3001⟩) (by assumption) ?zr3001
      case zy3001 => (intro w hSw; (try dsimp only at hSw); go_simp; try with_reducible rfl)
      change wpAnyH _ _ _ _ _ _ _ (Act.put _ (some 58) _) _
      simp only [Act.put, List.setIfInBounds_toArray, List.set_cons_zero, List.set_cons_succ]
      refine wpAnyH_take (i := 1) (v := ?zv3002) rfl (by kernel_rfl) (by kernel_rfl) (by kernel_rfl) (fun _ _ _ h => h) (Or.inl ⟨by kernel_rfl, ?zy3002⟩) (by assumption) ?zr3002
      case zy3002 => (intro w hSw; (try dsimp only at hSw); go_simp; try with_reducible rfl)
      change wpAnyH _ _ _ _ _ _ _ (Act.put _ (some 59) _) _
      simp only [Act.put, List.setIfInBounds_toArray, List.set_cons_zero, List.set_cons_succ]
      refine wpAnyH_ready (rs := [2]) (by kernel_rfl) (by simp) (AllReadyH.cons rfl (fun K hK => ?_) AllReadyH.nil)
      go_simp
      go_at_call 23
      refine (CA.out _ (below_drew HB9.out)).mono ?_
      rintro e w10 ⟨za, zb, rfl, ho10, hb10d⟩
      have hb10 : Below w9.heap.size w9 w10 := below_drew_l hb10d
      have OZ10 := Lib.hid ho10
      have KA10 := Lib.hid (KA9.out.below hb10 KA9.out.lt)
      have KB10 := Lib.hid (KB9.out.below hb10 KB9.out.lt)
      have HB10 : Hid (Below w.heap.size w w10) := HB9.out.trans (hb10.mono HB9.out.size)
      have KX10 := Lib.hid (KX9.out.below hb10 KX9.out.lt)
      have OX10 := Lib.hid (OX9.out.below hb10)
      have OI10 := Lib.hid (OI9.out.below hb10)
      have KW10 := Lib.hid (KW9.out.below hb10 KW9.out.lt)
      have OW10 := Lib.hid (OW9.out.below hb10)
      have KG10 := Lib.hid (KG9.out.below hb10 KG9.out.lt)
      have OG10 := Lib.hid (OG9.out.below hb10)
      have hs10 : w9.heap.size ≤ w10.heap.size := hb10.size
      clear hb10d hb10 ho10
      refine hK.out _ _ (⟨feed_cells KX10.out, feed_cells KA10.out⟩) (fun hHeld => ?_)
      clear hK K
      (try simp only [Act.put, List.setIfInBounds_toArray, List.set_cons_zero, List.set_cons_succ])
      refine wpAnyH_ready (rs := [3]) (by kernel_rfl) (by simp) (AllReadyH.cons rfl (fun K hK => ?_) AllReadyH.nil)
      go_simp
      go_at_call 26
      refine (eqFeed_n p l d s (some ⟨xa, 0, none⟩) nb (some ⟨xb, 0, none⟩) nh (some ⟨za, 0, none⟩) nb (some ⟨zb, 0, none⟩) nh bs hs w10 OX10.out.at_ OZ10.out.at_ HNB.out HNH.out).mono ?_
      rintro e w11 ⟨rfl, hb11⟩
      have KA11 := Lib.hid (KA10.out.below hb11 KA10.out.lt)
      have KB11 := Lib.hid (KB10.out.below hb11 KB10.out.lt)
      have HB11 : Hid (Below w.heap.size w w11) := HB10.out.trans (hb11.mono HB10.out.size)
      have KX11 := Lib.hid (KX10.out.below hb11 KX10.out.lt)
      have OX11 := Lib.hid (OX10.out.below hb11)
      have OI11 := Lib.hid (OI10.out.below hb11)
      have KW11 := Lib.hid (KW10.out.below hb11 KW10.out.lt)
      have OW11 := Lib.hid (OW10.out.below hb11)
      have KG11 := Lib.hid (KG10.out.below hb11 KG10.out.lt)
      have OG11 := Lib.hid (OG10.out.below hb11)
      have hs11 : w10.heap.size ≤ w11.heap.size := hb11.size
      clear hb11
      refine hK.out _ _ (⟨feed_cells KX11.out, feed_cells KA11.out⟩) (fun hHeld => ?_)
      clear hK K
      (try simp only [Act.put, List.setIfInBounds_toArray, List.set_cons_zero, List.set_cons_succ])
      refine wpAnyH_take (i := 4) (v := ?zv3003) rfl (by kernel_rfl) (by kernel_rfl) (by kernel_rfl) (fun _ _ _ h => h) (Or.inl ⟨by kernel_rfl, ?zy3003⟩) (by assumption) ?zr3003
      case zy3003 => (intro w hSw; (try dsimp only at hSw); go_simp; try with_reducible rfl)
      change wpAnyH _ _ _ _ _ _ _ (Act.put _ (some 62) _) _
      simp only [Act.put, List.setIfInBounds_toArray, List.set_cons_zero, List.set_cons_succ]
      refine wpAnyH_done (by kernel_rfl) ?_ _
      clear x0 x1 x2 x3 x4 x5 a0 a1 a2 a3 a4 a5
      go_wp2_with fail
      refine (CZ.out _ HB11.out).mono ?_
      rintro e w12 ⟨yg, rfl, -, ho12, hb12⟩
      have OY12 := Lib.hid ho12
      have KA12 := Lib.hid (KA11.out.below hb12 KA11.out.lt)
      have KB12 := Lib.hid (KB11.out.below hb12 KB11.out.lt)
      have HB12 : Hid (Below w.heap.size w w12) := HB11.out.trans (hb12.mono HB11.out.size)
      have KX12 := Lib.hid (KX11.out.below hb12 KX11.out.lt)
      have OX12 := Lib.hid (OX11.out.below hb12)
      have OI12 := Lib.hid (OI11.out.below hb12)
      have KW12 := Lib.hid (KW11.out.below hb12 KW11.out.lt)
      have OW12 := Lib.hid (OW11.out.below hb12)
      have KG12 := Lib.hid (KG11.out.below hb12 KG11.out.lt)
      have OG12 := Lib.hid (OG11.out.below hb12)
      have hs12 : w11.heap.size ≤ w12.heap.size := hb12.size
      clear hb12 ho12
      go_wp2_with fail
      refine (eqInts_n (some ⟨xg, 0, none⟩) ng (some ⟨yg, 0, none⟩) ng zs w12 OI12.out.ints OY12.out.ints HZM.out HNG.out).mono ?_
      rintro e w13 ⟨rfl, hb13⟩
      have KA13 := Lib.hid (KA12.out.below hb13 KA12.out.lt)
      have KB13 := Lib.hid (KB12.out.below hb13 KB12.out.lt)
      have HB13 : Hid (Below w.heap.size w w13) := HB12.out.trans (hb13.mono HB12.out.size)
      have KX13 := Lib.hid (KX12.out.below hb13 KX12.out.lt)
      have OX13 := Lib.hid (OX12.out.below hb13)
      have OI13 := Lib.hid (OI12.out.below hb13)
      have KW13 := Lib.hid (KW12.out.below hb13 KW12.out.lt)
      have OW13 := Lib.hid (OW12.out.below hb13)
      have KG13 := Lib.hid (KG12.out.below hb13 KG12.out.lt)
      have OG13 := Lib.hid (OG12.out.below hb13)
      have hs13 : w12.heap.size ≤ w13.heap.size := hb13.size
      clear hb13
      obtain ⟨x0, x1, x2, x3, x4, x5⟩ := feed_cells KX13.out
      obtain ⟨k1, HK1⟩ : ∃ k, Hid (1 + nb + nh = k) := ⟨_, rfl⟩
      obtain ⟨k2, HK2⟩ : ∃ k, Hid (k1 + ng = k) := ⟨_, rfl⟩
      have hk1 : k1 ≤ 4000000 := by have := HK1.out; omega
      have hk2 : ¬ ((k2 : Int) < 0) := by omega
      go_wp2_with fail
      refine (markFeed_n p l d s wa.heap.size (some ⟨xa, 0, none⟩) nb (some ⟨xb, 0, none⟩) nh bs hs w13 OX13.out HL.out.1 HL.out.2 (by omega) HNB.out HNH.out HK1.out).mono ?_
      rintro e w14 ⟨rfl, -, hb14, hk14⟩
      have HKP : Hid (∀ i, i < w13.heap.size → (i ≠ xa ∧ i ≠ xb) → w14.heap[i]? = w13.heap[i]?) := fun i hi hne => hk14 i hi (by rintro g (e | e) <;> (injection e with e; injection e with e _ _; omega))
      have HB14 : Hid (Below w.heap.size w w14) := HB13.out.trans (hb14.mono (by omega))
      have hs14 : w13.heap.size ≤ w14.heap.size := hb14.size
      have KA14 : Hid (Blk w14 w.heap.size 45 (feedC p l d s A1 nb c1 A2 nh c2)) := (HKP.out _ KA13.out.lt ⟨by omega, by omega⟩).trans KA13.out
      have KB14 : Hid (Blk w14 (w.heap.size + 1) 43 #[.int .i64 hl, .int .i64 hd, .int .i64 ht]) := (HKP.out _ KB13.out.lt ⟨by omega, by omega⟩).trans KB13.out
      have OI14 := Lib.hid (own_block OI13.out fun r hr => HKP.out r (own_lt OI13.out r hr).2 (by injection hr with hr; injection hr with hr _ _; omega))
      have KW14 : Hid (Blk w14 gw 28 (feedC op ol od os AW mb cw BW mh dw)) := (HKP.out _ KW13.out.lt ⟨by omega, by omega⟩).trans KW13.out
      have OW14 := Lib.hid (OW13.out.blocks fun r hr => HKP.out r (OW13.out.rows r hr).2 (by have := HWL.out r hr; omega))
      have KG14 : Hid (Blk w14 gg 28 (feedC op ol od os AG mb cg BG mh dg)) := (HKP.out _ KG13.out.lt ⟨by omega, by omega⟩).trans KG13.out
      have OG14 := Lib.hid (OG13.out.blocks fun r hr => HKP.out r (OG13.out.rows r hr).2 (by have := HGL.out r hr; omega))
      clear x0 x1 x2 x3 x4 x5
      clear hk14 hb14
      go_wp2_with fail
      refine (markInts_n w5.heap.size xg ng k1 zs w14 OI14.out HZM.out hk1 HNG.out HK2.out).mono ?_
      rintro e w15 ⟨rfl, hg15⟩
      have HKQ : Hid (∀ i, i < w14.heap.size → i ≠ xg → w15.heap[i]? = w14.heap[i]?) := fun i hi hne => hg15.block i hi (fun e => hne (by injection e))
      have HB15 : Hid (Below w.heap.size w w15) := HB14.out.grown hg15 (by omega) (fun k hk => by injection hk with hk; omega)
      have hs15 : w14.heap.size ≤ w15.heap.size := hg15.size
      have KA15 : Hid (Blk w15 w.heap.size 45 (feedC p l d s A1 nb c1 A2 nh c2)) := (HKQ.out _ KA14.out.lt (by omega)).trans KA14.out
      have KB15 : Hid (Blk w15 (w.heap.size + 1) 43 #[.int .i64 hl, .int .i64 hd, .int .i64 ht]) := (HKQ.out _ KB14.out.lt (by omega)).trans KB14.out
      have KW15 : Hid (Blk w15 gw 28 (feedC op ol od os AW mb cw BW mh dw)) := (HKQ.out _ KW14.out.lt (by omega)).trans KW14.out
      have OW15 := Lib.hid (OW14.out.blocks fun r hr => HKQ.out r (OW14.out.rows r hr).2 (by have := HWL.out r hr; omega))
      have KG15 : Hid (Blk w15 gg 28 (feedC op ol od os AG mb cg BG mh dg)) := (HKQ.out _ KG14.out.lt (by omega)).trans KG14.out
      have OG15 := Lib.hid (OG14.out.blocks fun r hr => HKQ.out r (OG14.out.rows r hr).2 (by have := HGL.out r hr; omega))
      clear hg15
      obtain ⟨g0, g1, g2, g3, g4, g5⟩ := feed_cells KG15.out
      obtain ⟨q0, q1, q2, q3, q4, q5⟩ := feed_cells KW15.out
      go_wp2_with fail
      refine (eqFeed_n op ol od os AG cg BG dg AW cw BW dw obs ohs w15 OG15.out.at_ OW15.out.at_ HMB.out HMH.out).mono ?_
      rintro e w16a ⟨rfl, hb16a⟩
      have KA16a := Lib.hid (KA15.out.below hb16a KA15.out.lt)
      have KB16a := Lib.hid (KB15.out.below hb16a KB15.out.lt)
      have KW16a := Lib.hid (KW15.out.below hb16a KW15.out.lt)
      have OW16a := Lib.hid (OW15.out.below hb16a)
      have KG16a := Lib.hid (KG15.out.below hb16a KG15.out.lt)
      have OG16a := Lib.hid (OG15.out.below hb16a)
      have HB16a : Hid (Below w.heap.size w w16a) := HB15.out.trans (hb16a.mono HB15.out.size)
      have hs16a : w15.heap.size ≤ w16a.heap.size := hb16a.size
      clear g0 g1 g2 g3 g4 g5 q0 q1 q2 q3 q4 q5
      clear hb16a
      obtain ⟨g0, g1, g2, g3, g4, g5⟩ := feed_cells KG16a.out
      obtain ⟨k3, HK3⟩ : ∃ k, Hid (1 + mb + mh = k) := ⟨_, rfl⟩
      have hk3 : ¬ ((k3 : Int) < 0) := by omega
      have hk33 : ((k3 : Int) != (k3 : Int)) = false := by simp
      go_wp2_with fail
      refine (markFeed_n op ol od os w7.heap.size AG cg BG dg obs ohs w16a OG16a.out HOL.out.1 HOL.out.2 (by omega) HMB.out HMH.out HK3.out).mono ?_
      rintro e w16b ⟨rfl, hm16b, hb16b, hk16b⟩
      have MG16b := Lib.hid hm16b
      have HKR : Hid (∀ i, i < w16a.heap.size → (∀ g, (AG = some ⟨g, 0, none⟩ ∨ BG = some ⟨g, 0, none⟩) → i ≠ g) → w16b.heap[i]? = w16a.heap[i]?) := hk16b
      have HB16b : Hid (Below w.heap.size w w16b) := HB16a.out.trans (hb16b.mono (by omega))
      have hs16b : w16a.heap.size ≤ w16b.heap.size := hb16b.size
      have KA16b : Hid (Blk w16b w.heap.size 45 (feedC p l d s A1 nb c1 A2 nh c2)) := (HKR.out _ KA16a.out.lt (fun g e => by have := HGL.out g e; omega)).trans KA16a.out
      have KB16b : Hid (Blk w16b (w.heap.size + 1) 43 #[.int .i64 hl, .int .i64 hd, .int .i64 ht]) := (HKR.out _ KB16a.out.lt (fun g e => by have := HGL.out g e; omega)).trans KB16a.out
      have KW16b : Hid (Blk w16b gw 28 (feedC op ol od os AW mb cw BW mh dw)) := (HKR.out _ KW16a.out.lt (fun g e => by have := HGL.out g e; omega)).trans KW16a.out
      have OW16b := Lib.hid (OW16a.out.blocks fun r hr => HKR.out r (OW16a.out.rows r hr).2 (fun g e => by have := HGL.out g e; have := HWL.out r hr; omega))
      have KG16b : Hid (Blk w16b gg 28 (feedC op ol od os AG mb cg BG mh dg)) := (HKR.out _ KG16a.out.lt (fun g e => HGN.out g e)).trans KG16a.out
      clear g0 g1 g2 g3 g4 g5
      clear hm16b hb16b hk16b
      obtain ⟨g0, g1, g2, g3, g4, g5⟩ := feed_cells KG16b.out
      go_wp2_with fail
      refine (heldFeed_n op ol od os AG cg BG dg mb mh w16b MG16b.out.at_ HOL2.out.1 HOL2.out.2 HK3.out).mono ?_
      rintro e w16 ⟨rfl, hb16⟩
      have KA16 := Lib.hid (KA16b.out.below hb16 KA16b.out.lt)
      have KB16 := Lib.hid (KB16b.out.below hb16 KB16b.out.lt)
      have KW16 := Lib.hid (KW16b.out.below hb16 KW16b.out.lt)
      have OW16 := Lib.hid (OW16b.out.below hb16)
      have KG16 := Lib.hid (KG16b.out.below hb16 KG16b.out.lt)
      have MG16 := Lib.hid (MG16b.out.below hb16)
      have HB16 : Hid (Below w.heap.size w w16) := HB16b.out.trans (hb16.mono HB16b.out.size)
      have hs16 : w16b.heap.size ≤ w16.heap.size := hb16.size
      clear g0 g1 g2 g3 g4 g5
      clear hb16
      go_upto_region 30 with fail
      go_cut [17, 18] (fun sa sb wx => ∃ (gr : Nat) (RA : Option Addr) (rc : Nat) (RB : Option Addr) (rd : Nat), sa = .pointer (some ⟨gr, 0, none⟩) ∧ sb = .int .i64 C ∧ w16.heap.size ≤ gr ∧ Hid (Blk wx gr 28 (feedC op ol od os RA mb rc RB mh rd)) ∧ Hid (OwnFeed wx (w16.heap.size) RA rc RB rd obs ohs) ∧ Hid (Blk wx w.heap.size 45 (feedC p l d s A1 nb c1 A2 nh c2)) ∧ Hid (Blk wx (w.heap.size + 1) 43 #[.int .i64 hl, .int .i64 hd, .int .i64 ht]) ∧ Hid (Below w.heap.size w wx) ∧ Hid (Blk wx gw 28 (feedC op ol od os AW mb cw BW mh dw)) ∧ Hid (OwnFeed wx (w.heap.size + 1 + 1) AW cw BW dw obs ohs) ∧ Hid (Blk wx gg 28 (feedC op ol od os AG mb cg BG mh dg)) ∧ Hid (OwnFeed wx w7.heap.size AG cg BG dg (smarks 1 mb) (bmarks (1 + mb) mh)))
      case first =>
        (try go_wp2_with fail)
        refine wp_region_held_drew (S := fun w' => (w'.cell? ⟨w.heap.size, 0, none⟩ = some (.int .i64 p) ∧ w'.cell? ⟨w.heap.size, 1, none⟩ = some (.int .i64 l) ∧ w'.cell? ⟨w.heap.size, 2, none⟩ = some (.int .i64 d) ∧ w'.cell? ⟨w.heap.size, 3, none⟩ = some (.int .i64 s) ∧ w'.cell? ⟨w.heap.size, 4, none⟩ = some (.slice A1 nb c1) ∧ w'.cell? ⟨w.heap.size, 5, none⟩ = some (.slice A2 nh c2)) ∧ (w'.cell? ⟨w.heap.size + 1, 0, none⟩ = some (.int .i64 hl) ∧ w'.cell? ⟨w.heap.size + 1, 1, none⟩ = some (.int .i64 hd) ∧ w'.cell? ⟨w.heap.size + 1, 2, none⟩ = some (.int .i64 ht))) (by kernel_rfl) (⟨feed_cells KA16.out, head_cells KB16.out⟩) (fun hHeld => ?_)
        obtain ⟨U0, HU0⟩ : ∃ U, Hid (w16.drew = U) := ⟨_, rfl⟩
        have KA0 := Lib.hid (KA16.out.below (below_drew (Below.refl _ _)) KA16.out.lt)
        have KB0 := Lib.hid (KB16.out.below (below_drew (Below.refl _ _)) KB16.out.lt)
        have HB0 : Hid (Below w.heap.size w U0) := by rw [← HU0.out]; exact below_drew HB16.out
        have KW0 := Lib.hid (KW16.out.below (below_drew (Below.refl _ _)) KW16.out.lt)
        have OW0 := Lib.hid (OW16.out.below (below_drew (Below.refl _ _)))
        have KG0 := Lib.hid (KG16.out.below (below_drew (Below.refl _ _)) KG16.out.lt)
        have MG0 := Lib.hid (MG16.out.below (below_drew (Below.refl _ _)))
        have hzz : w16.heap.size ≤ U0.heap.size := by rw [← HU0.out]; exact Nat.le_refl _
        rw [HU0.out] at hHeld KA0 KB0 KW0 OW0 KG0 MG0 ⊢
        refine wpAnyH_take (i := 0) (v := ?zv68) rfl (by kernel_rfl) (by kernel_rfl) (by kernel_rfl) (fun _ _ _ h => h) (Or.inl ⟨by kernel_rfl, ?zy68⟩) (by assumption) ?zr68
        case zy68 => (intro w hSw; (try dsimp only at hSw); go_simp; try with_reducible rfl)
        change wpAnyH _ _ _ _ _ _ _ (Act.put _ (some 99) _) _
        simp only [Act.put, List.setIfInBounds_toArray, List.set_cons_zero, List.set_cons_succ]
        refine wpAnyH_take (i := 2) (v := ?zv69) rfl (by kernel_rfl) (by kernel_rfl) (by kernel_rfl) (fun _ _ _ h => h) (Or.inl ⟨by kernel_rfl, ?zy69⟩) (by assumption) ?zr69
        case zy69 => (intro w hSw; (try dsimp only at hSw); go_simp; try with_reducible rfl)
        change wpAnyH _ _ _ _ _ _ _ (Act.put _ (some 101) _) _
        simp only [Act.put, List.setIfInBounds_toArray, List.set_cons_zero, List.set_cons_succ]
        refine wpAnyH_take (i := 4) (v := ?zv70) rfl (by kernel_rfl) (by kernel_rfl) (by kernel_rfl) (fun _ _ _ h => h) (Or.inl ⟨by kernel_rfl, ?zy70⟩) (by assumption) ?zr70
        case zy70 => (intro w hSw; (try dsimp only at hSw); go_simp; try with_reducible rfl)
        change wpAnyH _ _ _ _ _ _ _ (Act.put _ (some 103) _) _
        simp only [Act.put, List.setIfInBounds_toArray, List.set_cons_zero, List.set_cons_succ]
        refine wpAnyH_ready (rs := [1, 10]) (by kernel_rfl) (by simp) (AllReadyH.cons rfl (fun K hK => ?zo71_0) (AllReadyH.cons rfl (fun K hK => ?zo71_1) AllReadyH.nil))
        case zo71_0 =>
          go_simp
          go_at_call 23
          refine (CA.out U0 HB0.out).mono ?_
          rintro e U1 ⟨ta, tb, rfl, ho1, hb1⟩
          have KA1 := Lib.hid (KA0.out.below hb1 KA0.out.lt)
          have KB1 := Lib.hid (KB0.out.below hb1 KB0.out.lt)
          have HB1 : Hid (Below w.heap.size w U1) := HB0.out.trans (hb1.mono HB0.out.size)
          have KW1 := Lib.hid (KW0.out.below hb1 KW0.out.lt)
          have OW1 := Lib.hid (OW0.out.below hb1)
          have KG1 := Lib.hid (KG0.out.below hb1 KG0.out.lt)
          have MG1 := Lib.hid (MG0.out.below hb1)
          have hs1 : U0.heap.size ≤ U1.heap.size := hb1.size
          have TF1 := Lib.hid ho1
          clear ho1
          refine hK.out _ _ (⟨feed_cells KA1.out, head_cells KB1.out⟩) (fun hHeld => ?_)
          clear hK K
          (try simp only [Act.put, List.setIfInBounds_toArray, List.set_cons_zero, List.set_cons_succ])
          refine wpAnyH_ready (rs := [3, 10]) (by kernel_rfl) (by simp) (AllReadyH.cons rfl (fun K hK => ?zo72_0) (AllReadyH.cons rfl (fun K hK => ?zo72_1) AllReadyH.nil))
          case zo72_0 =>
            go_simp
            go_at_call 24
            refine (toHead_any hl hd ht U1).mono ?_
            rintro e U2 ⟨rfl, hb2⟩
            have KA2 := Lib.hid (KA1.out.below hb2 KA1.out.lt)
            have KB2 := Lib.hid (KB1.out.below hb2 KB1.out.lt)
            have HB2 : Hid (Below w.heap.size w U2) := HB1.out.trans (hb2.mono HB1.out.size)
            have KW2 := Lib.hid (KW1.out.below hb2 KW1.out.lt)
            have OW2 := Lib.hid (OW1.out.below hb2)
            have KG2 := Lib.hid (KG1.out.below hb2 KG1.out.lt)
            have MG2 := Lib.hid (MG1.out.below hb2)
            have TF2 := Lib.hid (TF1.out.below hb2)
            have hs2 : U1.heap.size ≤ U2.heap.size := hb2.size
            refine hK.out _ _ (⟨feed_cells KA2.out, head_cells KB2.out⟩) (fun hHeld => ?_)
            clear hK K
            (try simp only [Act.put, List.setIfInBounds_toArray, List.set_cons_zero, List.set_cons_succ])
            refine wpAnyH_ready (rs := [5, 10]) (by kernel_rfl) (by simp) (AllReadyH.cons rfl (fun K hK => ?zo73_0) (AllReadyH.cons rfl (fun K hK => ?zo73_1) AllReadyH.nil))
            case zo73_0 =>
              go_simp
              go_at_call 25
              refine (CZ.out U2 HB2.out).mono ?_
              rintro e U3 ⟨tg, rfl, -, ho3, hb3⟩
              have KA3 := Lib.hid (KA2.out.below hb3 KA2.out.lt)
              have KB3 := Lib.hid (KB2.out.below hb3 KB2.out.lt)
              have HB3 : Hid (Below w.heap.size w U3) := HB2.out.trans (hb3.mono HB2.out.size)
              have KW3 := Lib.hid (KW2.out.below hb3 KW2.out.lt)
              have OW3 := Lib.hid (OW2.out.below hb3)
              have KG3 := Lib.hid (KG2.out.below hb3 KG2.out.lt)
              have MG3 := Lib.hid (MG2.out.below hb3)
              have TF3 := Lib.hid (TF2.out.below hb3)
              have hs3 : U2.heap.size ≤ U3.heap.size := hb3.size
              have TI3 := Lib.hid ho3
              clear ho3
              refine hK.out _ _ (⟨feed_cells KA3.out, head_cells KB3.out⟩) (fun hHeld => ?_)
              clear hK K
              (try simp only [Act.put, List.setIfInBounds_toArray, List.set_cons_zero, List.set_cons_succ])
              refine wpAnyH_ready (rs := [6, 10]) (by kernel_rfl) (by simp) (AllReadyH.cons rfl (fun K hK => ?zo74_0) (AllReadyH.cons rfl (fun K hK => ?zo74_1) AllReadyH.nil))
              case zo74_0 =>
                go_simp
                go_at_call 12
                refine (feedHead_n p l d s (some ⟨ta, 0, none⟩) nb (some ⟨tb, 0, none⟩) nh bs hs hl hd ht (some ⟨tg, 0, none⟩) ng zs U3 (hE.out.below HB3.out) (by have k := GI.out _ _ _ TI3.out; exact k) TF3.out.at_ HNB.out HNH.out HNG.out HO.out HMB.out HMH.out HC.out).mono ?_
                rintro e U4 ⟨RA, rc, RB, rd, rfl, ho4, hb4⟩
                have KA4 := Lib.hid (KA3.out.below hb4 KA3.out.lt)
                have KB4 := Lib.hid (KB3.out.below hb4 KB3.out.lt)
                have HB4 : Hid (Below w.heap.size w U4) := HB3.out.trans (hb4.mono HB3.out.size)
                have KW4 := Lib.hid (KW3.out.below hb4 KW3.out.lt)
                have OW4 := Lib.hid (OW3.out.below hb4)
                have KG4 := Lib.hid (KG3.out.below hb4 KG3.out.lt)
                have MG4 := Lib.hid (MG3.out.below hb4)
                have TF4 := Lib.hid (TF3.out.below hb4)
                have TI4 := Lib.hid (TI3.out.below hb4)
                have hs4 : U3.heap.size ≤ U4.heap.size := hb4.size
                have RW4 := Lib.hid ho4
                have HRW := Lib.hid ho4.rows
                clear ho4
                refine hK.out _ _ (⟨feed_cells KA4.out, head_cells KB4.out⟩) (fun hHeld => ?_)
                clear hK K
                (try simp only [Act.put, List.setIfInBounds_toArray, List.set_cons_zero, List.set_cons_succ])
                refine wpAnyH_take (i := 7) (v := ?zv75) rfl (by kernel_rfl) (by kernel_rfl) (by kernel_rfl) (fun _ _ _ h => h) (Or.inl ⟨by kernel_rfl, ?zy75⟩) (by assumption) ?zr75
                case zy75 => (intro w hSw; (try dsimp only at hSw); go_simp; try with_reducible rfl)
                change wpAnyH _ _ _ _ _ _ _ (Act.put _ (some 98) _) _
                simp only [Act.put, List.setIfInBounds_toArray, List.set_cons_zero, List.set_cons_succ]
                refine wpAnyH_take (i := 8) (v := ?zv76) rfl (by kernel_rfl) (by kernel_rfl) (by kernel_rfl) (fun _ _ _ h => h) (Or.inl ⟨by kernel_rfl, ?zy76⟩) (by assumption) ?zr76
                case zy76 => (intro w hSw; (try dsimp only at hSw); go_simp; try with_reducible rfl)
                change wpAnyH _ _ _ _ _ _ _ (Act.put _ (some 106) _) _
                simp only [Act.put, List.setIfInBounds_toArray, List.set_cons_zero, List.set_cons_succ]
                refine wpAnyH_take (i := 9) (v := ?zv77) rfl (by kernel_rfl) (by kernel_rfl) (by kernel_rfl) (fun _ _ _ h => h) (Or.inl ⟨by kernel_rfl, ?zy77⟩) (by assumption) ?zr77
                case zy77 => (intro w hSw; (try dsimp only at hSw); go_simp; try with_reducible rfl)
                change wpAnyH _ _ _ _ _ _ _ (Act.put _ (some 107) _) _
                simp only [Act.put, List.setIfInBounds_toArray, List.set_cons_zero, List.set_cons_succ]
                refine wpAnyH_ready (rs := [10]) (by kernel_rfl) (by simp) (AllReadyH.cons rfl (fun K hK => ?zo78_0) AllReadyH.nil)
                case zo78_0 =>
                  go_simp
                  refine hK.out _ _ (⟨feed_cells (KA4.out.alloc _), head_cells (KB4.out.alloc _)⟩) (fun hHeld => ?_)
                  clear hK K
                  (try simp only [Act.put, List.setIfInBounds_toArray, List.set_cons_zero, List.set_cons_succ])
                  obtain ⟨U5, HU5⟩ : ∃ U, Hid (U4.alloc (.cells (feedC 0 0 0 0 none 0 0 none 0 0) 28) = U) := ⟨_, rfl⟩
                  have hb5 : Below U4.heap.size U4 U5 := by rw [← HU5.out]; exact (Below.refl _ _).alloc (Nat.le_refl _) _
                  have KA5 := Lib.hid (KA4.out.below hb5 KA4.out.lt)
                  have KB5 := Lib.hid (KB4.out.below hb5 KB4.out.lt)
                  have HB5 : Hid (Below w.heap.size w U5) := HB4.out.trans (hb5.mono HB4.out.size)
                  have KW5 := Lib.hid (KW4.out.below hb5 KW4.out.lt)
                  have OW5 := Lib.hid (OW4.out.below hb5)
                  have KG5 := Lib.hid (KG4.out.below hb5 KG4.out.lt)
                  have MG5 := Lib.hid (MG4.out.below hb5)
                  have RW5 := Lib.hid (RW4.out.below hb5)
                  have hs5 : U4.heap.size ≤ U5.heap.size := hb5.size
                  have KT5 : Hid (Blk U5 U4.heap.size 28 (feedC 0 0 0 0 none 0 0 none 0 0)) := by rw [← HU5.out]; exact Blk.new U4 _ _
                  have hz5 : U4.heap.size < U5.heap.size := KT5.out.lt
                  rw [HU5.out] at hHeld ⊢
                  refine wpAnyH_ready (rs := [11]) (by kernel_rfl) (by simp) (AllReadyH.cons rfl (fun K hK => ?zo79_0) AllReadyH.nil)
                  case zo79_0 =>
                    go_simp
                    obtain ⟨n0, n1, n2, n3, n4, n5⟩ := feed_cells KT5.out
                    have nf := blk_frozen KT5.out
                    obtain ⟨U6, HU6⟩ : ∃ U, Hid (((((((U5.setCell ⟨U4.heap.size, 0, none⟩ (.int .i64 op)).setCell ⟨U4.heap.size, 1, none⟩ (.int .i64 ol)).setCell ⟨U4.heap.size, 2, none⟩ (.int .i64 od)).setCell ⟨U4.heap.size, 3, none⟩ (.int .i64 os)).setCell ⟨U4.heap.size, 4, none⟩ (.slice RA mb rc)).setCell ⟨U4.heap.size, 5, none⟩ (.slice RB mh rd)) = U) := ⟨_, rfl⟩
                    have ho6 : ∀ i, i ≠ U4.heap.size → U6.heap[i]? = U5.heap[i]? := by rw [← HU6.out]; exact six_other _ _ _ _ _ _ _ _
                    have hq6 : Below U0.heap.size U5 U6 := by rw [← HU6.out]; exact below_six (Below.refl _ _) (by omega) _ _ _ _ _ _
                    have KT6 : Hid (Blk U6 U4.heap.size 28 (feedC op ol od os RA mb rc RB mh rd)) := by rw [← HU6.out]; exact blk_six KT5.out _ _ _ _ _ _
                    have RW6 : Hid (OwnFeed U6 _ RA rc RB rd obs ohs) := RW5.out.blocks fun r hr => ho6 r (by have := HRW.out r hr; omega)
                    have KA6 := Lib.hid (KA5.out.below hq6 KA0.out.lt)
                    have KB6 := Lib.hid (KB5.out.below hq6 KB0.out.lt)
                    have HB6 : Hid (Below w.heap.size w U6) := HB5.out.trans (hq6.mono HB0.out.size)
                    have KW6 := Lib.hid (KW5.out.below hq6 KW0.out.lt)
                    have OW6 := Lib.hid (OW5.out.blocks fun r hr => ho6 r (by have := OW0.out.rows r hr; omega))
                    have KG6 := Lib.hid (KG5.out.below hq6 KG0.out.lt)
                    have MG6 := Lib.hid (MG5.out.blocks fun r hr => ho6 r (by have := MG0.out.rows r hr; omega))
                    go_simp
                    rw [HU6.out]
                    refine hK.out _ _ (⟨feed_cells KA6.out, head_cells KB6.out⟩) (fun hHeld => ?_)
                    clear hK K
                    (try simp only [Act.put])
                    refine wpAnyH_take (i := 12) (v := ?zv80) rfl (by kernel_rfl) (by kernel_rfl) (by kernel_rfl) (fun _ _ _ h => h) (Or.inl ⟨by kernel_rfl, ?zy80⟩) (by assumption) ?zr80
                    case zy80 => (intro w hSw; (try dsimp only at hSw); go_simp; try with_reducible rfl)
                    change wpAnyH _ _ _ _ _ _ _ (Act.put _ (some 18) _) _
                    simp only [Act.put, List.setIfInBounds_toArray, List.set_cons_zero, List.set_cons_succ]
                    refine wpAnyH_done (by kernel_rfl) ?_ _
                    (try go_wp2_with fail)
                    go_meet
                    exact ⟨_, RA, rc, RB, rd, rfl, rfl, by omega, KT6, Lib.hid (RW6.out.base_le (by omega)), KA6, KB6, HB6, KW6, OW6, KG6, MG6⟩
              case zo74_1 =>
                go_simp
                refine hK.out _ _ (⟨feed_cells (KA3.out.alloc _), head_cells (KB3.out.alloc _)⟩) (fun hHeld => ?_)
                clear hK K
                (try simp only [Act.put, List.setIfInBounds_toArray, List.set_cons_zero, List.set_cons_succ])
                obtain ⟨U4, HU4⟩ : ∃ U, Hid (U3.alloc (.cells (feedC 0 0 0 0 none 0 0 none 0 0) 28) = U) := ⟨_, rfl⟩
                have hb4 : Below U3.heap.size U3 U4 := by rw [← HU4.out]; exact (Below.refl _ _).alloc (Nat.le_refl _) _
                have KA4 := Lib.hid (KA3.out.below hb4 KA3.out.lt)
                have KB4 := Lib.hid (KB3.out.below hb4 KB3.out.lt)
                have HB4 : Hid (Below w.heap.size w U4) := HB3.out.trans (hb4.mono HB3.out.size)
                have KW4 := Lib.hid (KW3.out.below hb4 KW3.out.lt)
                have OW4 := Lib.hid (OW3.out.below hb4)
                have KG4 := Lib.hid (KG3.out.below hb4 KG3.out.lt)
                have MG4 := Lib.hid (MG3.out.below hb4)
                have TF4 := Lib.hid (TF3.out.below hb4)
                have TI4 := Lib.hid (TI3.out.below hb4)
                have hs4 : U3.heap.size ≤ U4.heap.size := hb4.size
                have KT4 : Hid (Blk U4 U3.heap.size 28 (feedC 0 0 0 0 none 0 0 none 0 0)) := by rw [← HU4.out]; exact Blk.new U3 _ _
                have hz4 : U3.heap.size < U4.heap.size := KT4.out.lt
                rw [HU4.out] at hHeld ⊢
                refine wpAnyH_ready (rs := [6]) (by kernel_rfl) (by simp) (AllReadyH.cons rfl (fun K hK => ?zo81_0) AllReadyH.nil)
                case zo81_0 =>
                  go_simp
                  go_at_call 12
                  refine (feedHead_n p l d s (some ⟨ta, 0, none⟩) nb (some ⟨tb, 0, none⟩) nh bs hs hl hd ht (some ⟨tg, 0, none⟩) ng zs U4 (hE.out.below HB4.out) (by have k := GI.out _ _ _ TI4.out; exact k) TF4.out.at_ HNB.out HNH.out HNG.out HO.out HMB.out HMH.out HC.out).mono ?_
                  rintro e U5 ⟨RA, rc, RB, rd, rfl, ho5, hb5⟩
                  have KA5 := Lib.hid (KA4.out.below hb5 KA4.out.lt)
                  have KB5 := Lib.hid (KB4.out.below hb5 KB4.out.lt)
                  have HB5 : Hid (Below w.heap.size w U5) := HB4.out.trans (hb5.mono HB4.out.size)
                  have KW5 := Lib.hid (KW4.out.below hb5 KW4.out.lt)
                  have OW5 := Lib.hid (OW4.out.below hb5)
                  have KG5 := Lib.hid (KG4.out.below hb5 KG4.out.lt)
                  have MG5 := Lib.hid (MG4.out.below hb5)
                  have TF5 := Lib.hid (TF4.out.below hb5)
                  have TI5 := Lib.hid (TI4.out.below hb5)
                  have KT5 := Lib.hid (KT4.out.below hb5 KT4.out.lt)
                  have hs5 : U4.heap.size ≤ U5.heap.size := hb5.size
                  have RW5 := Lib.hid ho5
                  have HRW := Lib.hid ho5.rows
                  clear ho5
                  refine hK.out _ _ (⟨feed_cells KA5.out, head_cells KB5.out⟩) (fun hHeld => ?_)
                  clear hK K
                  (try simp only [Act.put, List.setIfInBounds_toArray, List.set_cons_zero, List.set_cons_succ])
                  refine wpAnyH_take (i := 7) (v := ?zv82) rfl (by kernel_rfl) (by kernel_rfl) (by kernel_rfl) (fun _ _ _ h => h) (Or.inl ⟨by kernel_rfl, ?zy82⟩) (by assumption) ?zr82
                  case zy82 => (intro w hSw; (try dsimp only at hSw); go_simp; try with_reducible rfl)
                  change wpAnyH _ _ _ _ _ _ _ (Act.put _ (some 98) _) _
                  simp only [Act.put, List.setIfInBounds_toArray, List.set_cons_zero, List.set_cons_succ]
                  refine wpAnyH_take (i := 8) (v := ?zv83) rfl (by kernel_rfl) (by kernel_rfl) (by kernel_rfl) (fun _ _ _ h => h) (Or.inl ⟨by kernel_rfl, ?zy83⟩) (by assumption) ?zr83
                  case zy83 => (intro w hSw; (try dsimp only at hSw); go_simp; try with_reducible rfl)
                  change wpAnyH _ _ _ _ _ _ _ (Act.put _ (some 106) _) _
                  simp only [Act.put, List.setIfInBounds_toArray, List.set_cons_zero, List.set_cons_succ]
                  refine wpAnyH_take (i := 9) (v := ?zv84) rfl (by kernel_rfl) (by kernel_rfl) (by kernel_rfl) (fun _ _ _ h => h) (Or.inl ⟨by kernel_rfl, ?zy84⟩) (by assumption) ?zr84
                  case zy84 => (intro w hSw; (try dsimp only at hSw); go_simp; try with_reducible rfl)
                  change wpAnyH _ _ _ _ _ _ _ (Act.put _ (some 107) _) _
                  simp only [Act.put, List.setIfInBounds_toArray, List.set_cons_zero, List.set_cons_succ]
                  refine wpAnyH_ready (rs := [11]) (by kernel_rfl) (by simp) (AllReadyH.cons rfl (fun K hK => ?zo85_0) AllReadyH.nil)
                  case zo85_0 =>
                    go_simp
                    obtain ⟨n0, n1, n2, n3, n4, n5⟩ := feed_cells KT5.out
                    have nf := blk_frozen KT5.out
                    obtain ⟨U6, HU6⟩ : ∃ U, Hid (((((((U5.setCell ⟨U3.heap.size, 0, none⟩ (.int .i64 op)).setCell ⟨U3.heap.size, 1, none⟩ (.int .i64 ol)).setCell ⟨U3.heap.size, 2, none⟩ (.int .i64 od)).setCell ⟨U3.heap.size, 3, none⟩ (.int .i64 os)).setCell ⟨U3.heap.size, 4, none⟩ (.slice RA mb rc)).setCell ⟨U3.heap.size, 5, none⟩ (.slice RB mh rd)) = U) := ⟨_, rfl⟩
                    have ho6 : ∀ i, i ≠ U3.heap.size → U6.heap[i]? = U5.heap[i]? := by rw [← HU6.out]; exact six_other _ _ _ _ _ _ _ _
                    have hq6 : Below U0.heap.size U5 U6 := by rw [← HU6.out]; exact below_six (Below.refl _ _) (by omega) _ _ _ _ _ _
                    have KT6 : Hid (Blk U6 U3.heap.size 28 (feedC op ol od os RA mb rc RB mh rd)) := by rw [← HU6.out]; exact blk_six KT5.out _ _ _ _ _ _
                    have RW6 : Hid (OwnFeed U6 _ RA rc RB rd obs ohs) := RW5.out.blocks fun r hr => ho6 r (by have := HRW.out r hr; omega)
                    have KA6 := Lib.hid (KA5.out.below hq6 KA0.out.lt)
                    have KB6 := Lib.hid (KB5.out.below hq6 KB0.out.lt)
                    have HB6 : Hid (Below w.heap.size w U6) := HB5.out.trans (hq6.mono HB0.out.size)
                    have KW6 := Lib.hid (KW5.out.below hq6 KW0.out.lt)
                    have OW6 := Lib.hid (OW5.out.blocks fun r hr => ho6 r (by have := OW0.out.rows r hr; omega))
                    have KG6 := Lib.hid (KG5.out.below hq6 KG0.out.lt)
                    have MG6 := Lib.hid (MG5.out.blocks fun r hr => ho6 r (by have := MG0.out.rows r hr; omega))
                    go_simp
                    rw [HU6.out]
                    refine hK.out _ _ (⟨feed_cells KA6.out, head_cells KB6.out⟩) (fun hHeld => ?_)
                    clear hK K
                    (try simp only [Act.put])
                    refine wpAnyH_take (i := 12) (v := ?zv86) rfl (by kernel_rfl) (by kernel_rfl) (by kernel_rfl) (fun _ _ _ h => h) (Or.inl ⟨by kernel_rfl, ?zy86⟩) (by assumption) ?zr86
                    case zy86 => (intro w hSw; (try dsimp only at hSw); go_simp; try with_reducible rfl)
                    change wpAnyH _ _ _ _ _ _ _ (Act.put _ (some 18) _) _
                    simp only [Act.put, List.setIfInBounds_toArray, List.set_cons_zero, List.set_cons_succ]
                    refine wpAnyH_done (by kernel_rfl) ?_ _
                    (try go_wp2_with fail)
                    go_meet
                    exact ⟨_, RA, rc, RB, rd, rfl, rfl, by omega, KT6, Lib.hid (RW6.out.base_le (by omega)), KA6, KB6, HB6, KW6, OW6, KG6, MG6⟩
            case zo73_1 =>
              go_simp
              refine hK.out _ _ (⟨feed_cells (KA2.out.alloc _), head_cells (KB2.out.alloc _)⟩) (fun hHeld => ?_)
              clear hK K
              (try simp only [Act.put, List.setIfInBounds_toArray, List.set_cons_zero, List.set_cons_succ])
              obtain ⟨U3, HU3⟩ : ∃ U, Hid (U2.alloc (.cells (feedC 0 0 0 0 none 0 0 none 0 0) 28) = U) := ⟨_, rfl⟩
              have hb3 : Below U2.heap.size U2 U3 := by rw [← HU3.out]; exact (Below.refl _ _).alloc (Nat.le_refl _) _
              have KA3 := Lib.hid (KA2.out.below hb3 KA2.out.lt)
              have KB3 := Lib.hid (KB2.out.below hb3 KB2.out.lt)
              have HB3 : Hid (Below w.heap.size w U3) := HB2.out.trans (hb3.mono HB2.out.size)
              have KW3 := Lib.hid (KW2.out.below hb3 KW2.out.lt)
              have OW3 := Lib.hid (OW2.out.below hb3)
              have KG3 := Lib.hid (KG2.out.below hb3 KG2.out.lt)
              have MG3 := Lib.hid (MG2.out.below hb3)
              have TF3 := Lib.hid (TF2.out.below hb3)
              have hs3 : U2.heap.size ≤ U3.heap.size := hb3.size
              have KT3 : Hid (Blk U3 U2.heap.size 28 (feedC 0 0 0 0 none 0 0 none 0 0)) := by rw [← HU3.out]; exact Blk.new U2 _ _
              have hz3 : U2.heap.size < U3.heap.size := KT3.out.lt
              rw [HU3.out] at hHeld ⊢
              refine wpAnyH_ready (rs := [5]) (by kernel_rfl) (by simp) (AllReadyH.cons rfl (fun K hK => ?zo87_0) AllReadyH.nil)
              case zo87_0 =>
                go_simp
                go_at_call 25
                refine (CZ.out U3 HB3.out).mono ?_
                rintro e U4 ⟨tg, rfl, -, ho4, hb4⟩
                have KA4 := Lib.hid (KA3.out.below hb4 KA3.out.lt)
                have KB4 := Lib.hid (KB3.out.below hb4 KB3.out.lt)
                have HB4 : Hid (Below w.heap.size w U4) := HB3.out.trans (hb4.mono HB3.out.size)
                have KW4 := Lib.hid (KW3.out.below hb4 KW3.out.lt)
                have OW4 := Lib.hid (OW3.out.below hb4)
                have KG4 := Lib.hid (KG3.out.below hb4 KG3.out.lt)
                have MG4 := Lib.hid (MG3.out.below hb4)
                have TF4 := Lib.hid (TF3.out.below hb4)
                have KT4 := Lib.hid (KT3.out.below hb4 KT3.out.lt)
                have hs4 : U3.heap.size ≤ U4.heap.size := hb4.size
                have TI4 := Lib.hid ho4
                clear ho4
                refine hK.out _ _ (⟨feed_cells KA4.out, head_cells KB4.out⟩) (fun hHeld => ?_)
                clear hK K
                (try simp only [Act.put, List.setIfInBounds_toArray, List.set_cons_zero, List.set_cons_succ])
                refine wpAnyH_ready (rs := [6]) (by kernel_rfl) (by simp) (AllReadyH.cons rfl (fun K hK => ?zo88_0) AllReadyH.nil)
                case zo88_0 =>
                  go_simp
                  go_at_call 12
                  refine (feedHead_n p l d s (some ⟨ta, 0, none⟩) nb (some ⟨tb, 0, none⟩) nh bs hs hl hd ht (some ⟨tg, 0, none⟩) ng zs U4 (hE.out.below HB4.out) (by have k := GI.out _ _ _ TI4.out; exact k) TF4.out.at_ HNB.out HNH.out HNG.out HO.out HMB.out HMH.out HC.out).mono ?_
                  rintro e U5 ⟨RA, rc, RB, rd, rfl, ho5, hb5⟩
                  have KA5 := Lib.hid (KA4.out.below hb5 KA4.out.lt)
                  have KB5 := Lib.hid (KB4.out.below hb5 KB4.out.lt)
                  have HB5 : Hid (Below w.heap.size w U5) := HB4.out.trans (hb5.mono HB4.out.size)
                  have KW5 := Lib.hid (KW4.out.below hb5 KW4.out.lt)
                  have OW5 := Lib.hid (OW4.out.below hb5)
                  have KG5 := Lib.hid (KG4.out.below hb5 KG4.out.lt)
                  have MG5 := Lib.hid (MG4.out.below hb5)
                  have TF5 := Lib.hid (TF4.out.below hb5)
                  have KT5 := Lib.hid (KT4.out.below hb5 KT4.out.lt)
                  have TI5 := Lib.hid (TI4.out.below hb5)
                  have hs5 : U4.heap.size ≤ U5.heap.size := hb5.size
                  have RW5 := Lib.hid ho5
                  have HRW := Lib.hid ho5.rows
                  clear ho5
                  refine hK.out _ _ (⟨feed_cells KA5.out, head_cells KB5.out⟩) (fun hHeld => ?_)
                  clear hK K
                  (try simp only [Act.put, List.setIfInBounds_toArray, List.set_cons_zero, List.set_cons_succ])
                  refine wpAnyH_take (i := 7) (v := ?zv89) rfl (by kernel_rfl) (by kernel_rfl) (by kernel_rfl) (fun _ _ _ h => h) (Or.inl ⟨by kernel_rfl, ?zy89⟩) (by assumption) ?zr89
                  case zy89 => (intro w hSw; (try dsimp only at hSw); go_simp; try with_reducible rfl)
                  change wpAnyH _ _ _ _ _ _ _ (Act.put _ (some 98) _) _
                  simp only [Act.put, List.setIfInBounds_toArray, List.set_cons_zero, List.set_cons_succ]
                  refine wpAnyH_take (i := 8) (v := ?zv90) rfl (by kernel_rfl) (by kernel_rfl) (by kernel_rfl) (fun _ _ _ h => h) (Or.inl ⟨by kernel_rfl, ?zy90⟩) (by assumption) ?zr90
                  case zy90 => (intro w hSw; (try dsimp only at hSw); go_simp; try with_reducible rfl)
                  change wpAnyH _ _ _ _ _ _ _ (Act.put _ (some 106) _) _
                  simp only [Act.put, List.setIfInBounds_toArray, List.set_cons_zero, List.set_cons_succ]
                  refine wpAnyH_take (i := 9) (v := ?zv91) rfl (by kernel_rfl) (by kernel_rfl) (by kernel_rfl) (fun _ _ _ h => h) (Or.inl ⟨by kernel_rfl, ?zy91⟩) (by assumption) ?zr91
                  case zy91 => (intro w hSw; (try dsimp only at hSw); go_simp; try with_reducible rfl)
                  change wpAnyH _ _ _ _ _ _ _ (Act.put _ (some 107) _) _
                  simp only [Act.put, List.setIfInBounds_toArray, List.set_cons_zero, List.set_cons_succ]
                  refine wpAnyH_ready (rs := [11]) (by kernel_rfl) (by simp) (AllReadyH.cons rfl (fun K hK => ?zo92_0) AllReadyH.nil)
                  case zo92_0 =>
                    go_simp
                    obtain ⟨n0, n1, n2, n3, n4, n5⟩ := feed_cells KT5.out
                    have nf := blk_frozen KT5.out
                    obtain ⟨U6, HU6⟩ : ∃ U, Hid (((((((U5.setCell ⟨U2.heap.size, 0, none⟩ (.int .i64 op)).setCell ⟨U2.heap.size, 1, none⟩ (.int .i64 ol)).setCell ⟨U2.heap.size, 2, none⟩ (.int .i64 od)).setCell ⟨U2.heap.size, 3, none⟩ (.int .i64 os)).setCell ⟨U2.heap.size, 4, none⟩ (.slice RA mb rc)).setCell ⟨U2.heap.size, 5, none⟩ (.slice RB mh rd)) = U) := ⟨_, rfl⟩
                    have ho6 : ∀ i, i ≠ U2.heap.size → U6.heap[i]? = U5.heap[i]? := by rw [← HU6.out]; exact six_other _ _ _ _ _ _ _ _
                    have hq6 : Below U0.heap.size U5 U6 := by rw [← HU6.out]; exact below_six (Below.refl _ _) (by omega) _ _ _ _ _ _
                    have KT6 : Hid (Blk U6 U2.heap.size 28 (feedC op ol od os RA mb rc RB mh rd)) := by rw [← HU6.out]; exact blk_six KT5.out _ _ _ _ _ _
                    have RW6 : Hid (OwnFeed U6 _ RA rc RB rd obs ohs) := RW5.out.blocks fun r hr => ho6 r (by have := HRW.out r hr; omega)
                    have KA6 := Lib.hid (KA5.out.below hq6 KA0.out.lt)
                    have KB6 := Lib.hid (KB5.out.below hq6 KB0.out.lt)
                    have HB6 : Hid (Below w.heap.size w U6) := HB5.out.trans (hq6.mono HB0.out.size)
                    have KW6 := Lib.hid (KW5.out.below hq6 KW0.out.lt)
                    have OW6 := Lib.hid (OW5.out.blocks fun r hr => ho6 r (by have := OW0.out.rows r hr; omega))
                    have KG6 := Lib.hid (KG5.out.below hq6 KG0.out.lt)
                    have MG6 := Lib.hid (MG5.out.blocks fun r hr => ho6 r (by have := MG0.out.rows r hr; omega))
                    go_simp
                    rw [HU6.out]
                    refine hK.out _ _ (⟨feed_cells KA6.out, head_cells KB6.out⟩) (fun hHeld => ?_)
                    clear hK K
                    (try simp only [Act.put])
                    refine wpAnyH_take (i := 12) (v := ?zv93) rfl (by kernel_rfl) (by kernel_rfl) (by kernel_rfl) (fun _ _ _ h => h) (Or.inl ⟨by kernel_rfl, ?zy93⟩) (by assumption) ?zr93
                    case zy93 => (intro w hSw; (try dsimp only at hSw); go_simp; try with_reducible rfl)
                    change wpAnyH _ _ _ _ _ _ _ (Act.put _ (some 18) _) _
                    simp only [Act.put, List.setIfInBounds_toArray, List.set_cons_zero, List.set_cons_succ]
                    refine wpAnyH_done (by kernel_rfl) ?_ _
                    (try go_wp2_with fail)
                    go_meet
                    exact ⟨_, RA, rc, RB, rd, rfl, rfl, by omega, KT6, Lib.hid (RW6.out.base_le (by omega)), KA6, KB6, HB6, KW6, OW6, KG6, MG6⟩
          case zo72_1 =>
            go_simp
            refine hK.out _ _ (⟨feed_cells (KA1.out.alloc _), head_cells (KB1.out.alloc _)⟩) (fun hHeld => ?_)
            clear hK K
            (try simp only [Act.put, List.setIfInBounds_toArray, List.set_cons_zero, List.set_cons_succ])
            obtain ⟨U2, HU2⟩ : ∃ U, Hid (U1.alloc (.cells (feedC 0 0 0 0 none 0 0 none 0 0) 28) = U) := ⟨_, rfl⟩
            have hb2 : Below U1.heap.size U1 U2 := by rw [← HU2.out]; exact (Below.refl _ _).alloc (Nat.le_refl _) _
            have KA2 := Lib.hid (KA1.out.below hb2 KA1.out.lt)
            have KB2 := Lib.hid (KB1.out.below hb2 KB1.out.lt)
            have HB2 : Hid (Below w.heap.size w U2) := HB1.out.trans (hb2.mono HB1.out.size)
            have KW2 := Lib.hid (KW1.out.below hb2 KW1.out.lt)
            have OW2 := Lib.hid (OW1.out.below hb2)
            have KG2 := Lib.hid (KG1.out.below hb2 KG1.out.lt)
            have MG2 := Lib.hid (MG1.out.below hb2)
            have TF2 := Lib.hid (TF1.out.below hb2)
            have hs2 : U1.heap.size ≤ U2.heap.size := hb2.size
            have KT2 : Hid (Blk U2 U1.heap.size 28 (feedC 0 0 0 0 none 0 0 none 0 0)) := by rw [← HU2.out]; exact Blk.new U1 _ _
            have hz2 : U1.heap.size < U2.heap.size := KT2.out.lt
            rw [HU2.out] at hHeld ⊢
            refine wpAnyH_ready (rs := [3]) (by kernel_rfl) (by simp) (AllReadyH.cons rfl (fun K hK => ?zo94_0) AllReadyH.nil)
            case zo94_0 =>
              go_simp
              go_at_call 24
              refine (toHead_any hl hd ht U2).mono ?_
              rintro e U3 ⟨rfl, hb3⟩
              have KA3 := Lib.hid (KA2.out.below hb3 KA2.out.lt)
              have KB3 := Lib.hid (KB2.out.below hb3 KB2.out.lt)
              have HB3 : Hid (Below w.heap.size w U3) := HB2.out.trans (hb3.mono HB2.out.size)
              have KW3 := Lib.hid (KW2.out.below hb3 KW2.out.lt)
              have OW3 := Lib.hid (OW2.out.below hb3)
              have KG3 := Lib.hid (KG2.out.below hb3 KG2.out.lt)
              have MG3 := Lib.hid (MG2.out.below hb3)
              have TF3 := Lib.hid (TF2.out.below hb3)
              have KT3 := Lib.hid (KT2.out.below hb3 KT2.out.lt)
              have hs3 : U2.heap.size ≤ U3.heap.size := hb3.size
              refine hK.out _ _ (⟨feed_cells KA3.out, head_cells KB3.out⟩) (fun hHeld => ?_)
              clear hK K
              (try simp only [Act.put, List.setIfInBounds_toArray, List.set_cons_zero, List.set_cons_succ])
              refine wpAnyH_ready (rs := [5]) (by kernel_rfl) (by simp) (AllReadyH.cons rfl (fun K hK => ?zo95_0) AllReadyH.nil)
              case zo95_0 =>
                go_simp
                go_at_call 25
                refine (CZ.out U3 HB3.out).mono ?_
                rintro e U4 ⟨tg, rfl, -, ho4, hb4⟩
                have KA4 := Lib.hid (KA3.out.below hb4 KA3.out.lt)
                have KB4 := Lib.hid (KB3.out.below hb4 KB3.out.lt)
                have HB4 : Hid (Below w.heap.size w U4) := HB3.out.trans (hb4.mono HB3.out.size)
                have KW4 := Lib.hid (KW3.out.below hb4 KW3.out.lt)
                have OW4 := Lib.hid (OW3.out.below hb4)
                have KG4 := Lib.hid (KG3.out.below hb4 KG3.out.lt)
                have MG4 := Lib.hid (MG3.out.below hb4)
                have TF4 := Lib.hid (TF3.out.below hb4)
                have KT4 := Lib.hid (KT3.out.below hb4 KT3.out.lt)
                have hs4 : U3.heap.size ≤ U4.heap.size := hb4.size
                have TI4 := Lib.hid ho4
                clear ho4
                refine hK.out _ _ (⟨feed_cells KA4.out, head_cells KB4.out⟩) (fun hHeld => ?_)
                clear hK K
                (try simp only [Act.put, List.setIfInBounds_toArray, List.set_cons_zero, List.set_cons_succ])
                refine wpAnyH_ready (rs := [6]) (by kernel_rfl) (by simp) (AllReadyH.cons rfl (fun K hK => ?zo96_0) AllReadyH.nil)
                case zo96_0 =>
                  go_simp
                  go_at_call 12
                  refine (feedHead_n p l d s (some ⟨ta, 0, none⟩) nb (some ⟨tb, 0, none⟩) nh bs hs hl hd ht (some ⟨tg, 0, none⟩) ng zs U4 (hE.out.below HB4.out) (by have k := GI.out _ _ _ TI4.out; exact k) TF4.out.at_ HNB.out HNH.out HNG.out HO.out HMB.out HMH.out HC.out).mono ?_
                  rintro e U5 ⟨RA, rc, RB, rd, rfl, ho5, hb5⟩
                  have KA5 := Lib.hid (KA4.out.below hb5 KA4.out.lt)
                  have KB5 := Lib.hid (KB4.out.below hb5 KB4.out.lt)
                  have HB5 : Hid (Below w.heap.size w U5) := HB4.out.trans (hb5.mono HB4.out.size)
                  have KW5 := Lib.hid (KW4.out.below hb5 KW4.out.lt)
                  have OW5 := Lib.hid (OW4.out.below hb5)
                  have KG5 := Lib.hid (KG4.out.below hb5 KG4.out.lt)
                  have MG5 := Lib.hid (MG4.out.below hb5)
                  have TF5 := Lib.hid (TF4.out.below hb5)
                  have KT5 := Lib.hid (KT4.out.below hb5 KT4.out.lt)
                  have TI5 := Lib.hid (TI4.out.below hb5)
                  have hs5 : U4.heap.size ≤ U5.heap.size := hb5.size
                  have RW5 := Lib.hid ho5
                  have HRW := Lib.hid ho5.rows
                  clear ho5
                  refine hK.out _ _ (⟨feed_cells KA5.out, head_cells KB5.out⟩) (fun hHeld => ?_)
                  clear hK K
                  (try simp only [Act.put, List.setIfInBounds_toArray, List.set_cons_zero, List.set_cons_succ])
                  refine wpAnyH_take (i := 7) (v := ?zv97) rfl (by kernel_rfl) (by kernel_rfl) (by kernel_rfl) (fun _ _ _ h => h) (Or.inl ⟨by kernel_rfl, ?zy97⟩) (by assumption) ?zr97
                  case zy97 => (intro w hSw; (try dsimp only at hSw); go_simp; try with_reducible rfl)
                  change wpAnyH _ _ _ _ _ _ _ (Act.put _ (some 98) _) _
                  simp only [Act.put, List.setIfInBounds_toArray, List.set_cons_zero, List.set_cons_succ]
                  refine wpAnyH_take (i := 8) (v := ?zv98) rfl (by kernel_rfl) (by kernel_rfl) (by kernel_rfl) (fun _ _ _ h => h) (Or.inl ⟨by kernel_rfl, ?zy98⟩) (by assumption) ?zr98
                  case zy98 => (intro w hSw; (try dsimp only at hSw); go_simp; try with_reducible rfl)
                  change wpAnyH _ _ _ _ _ _ _ (Act.put _ (some 106) _) _
                  simp only [Act.put, List.setIfInBounds_toArray, List.set_cons_zero, List.set_cons_succ]
                  refine wpAnyH_take (i := 9) (v := ?zv99) rfl (by kernel_rfl) (by kernel_rfl) (by kernel_rfl) (fun _ _ _ h => h) (Or.inl ⟨by kernel_rfl, ?zy99⟩) (by assumption) ?zr99
                  case zy99 => (intro w hSw; (try dsimp only at hSw); go_simp; try with_reducible rfl)
                  change wpAnyH _ _ _ _ _ _ _ (Act.put _ (some 107) _) _
                  simp only [Act.put, List.setIfInBounds_toArray, List.set_cons_zero, List.set_cons_succ]
                  refine wpAnyH_ready (rs := [11]) (by kernel_rfl) (by simp) (AllReadyH.cons rfl (fun K hK => ?zo100_0) AllReadyH.nil)
                  case zo100_0 =>
                    go_simp
                    obtain ⟨n0, n1, n2, n3, n4, n5⟩ := feed_cells KT5.out
                    have nf := blk_frozen KT5.out
                    obtain ⟨U6, HU6⟩ : ∃ U, Hid (((((((U5.setCell ⟨U1.heap.size, 0, none⟩ (.int .i64 op)).setCell ⟨U1.heap.size, 1, none⟩ (.int .i64 ol)).setCell ⟨U1.heap.size, 2, none⟩ (.int .i64 od)).setCell ⟨U1.heap.size, 3, none⟩ (.int .i64 os)).setCell ⟨U1.heap.size, 4, none⟩ (.slice RA mb rc)).setCell ⟨U1.heap.size, 5, none⟩ (.slice RB mh rd)) = U) := ⟨_, rfl⟩
                    have ho6 : ∀ i, i ≠ U1.heap.size → U6.heap[i]? = U5.heap[i]? := by rw [← HU6.out]; exact six_other _ _ _ _ _ _ _ _
                    have hq6 : Below U0.heap.size U5 U6 := by rw [← HU6.out]; exact below_six (Below.refl _ _) (by omega) _ _ _ _ _ _
                    have KT6 : Hid (Blk U6 U1.heap.size 28 (feedC op ol od os RA mb rc RB mh rd)) := by rw [← HU6.out]; exact blk_six KT5.out _ _ _ _ _ _
                    have RW6 : Hid (OwnFeed U6 _ RA rc RB rd obs ohs) := RW5.out.blocks fun r hr => ho6 r (by have := HRW.out r hr; omega)
                    have KA6 := Lib.hid (KA5.out.below hq6 KA0.out.lt)
                    have KB6 := Lib.hid (KB5.out.below hq6 KB0.out.lt)
                    have HB6 : Hid (Below w.heap.size w U6) := HB5.out.trans (hq6.mono HB0.out.size)
                    have KW6 := Lib.hid (KW5.out.below hq6 KW0.out.lt)
                    have OW6 := Lib.hid (OW5.out.blocks fun r hr => ho6 r (by have := OW0.out.rows r hr; omega))
                    have KG6 := Lib.hid (KG5.out.below hq6 KG0.out.lt)
                    have MG6 := Lib.hid (MG5.out.blocks fun r hr => ho6 r (by have := MG0.out.rows r hr; omega))
                    go_simp
                    rw [HU6.out]
                    refine hK.out _ _ (⟨feed_cells KA6.out, head_cells KB6.out⟩) (fun hHeld => ?_)
                    clear hK K
                    (try simp only [Act.put])
                    refine wpAnyH_take (i := 12) (v := ?zv101) rfl (by kernel_rfl) (by kernel_rfl) (by kernel_rfl) (fun _ _ _ h => h) (Or.inl ⟨by kernel_rfl, ?zy101⟩) (by assumption) ?zr101
                    case zy101 => (intro w hSw; (try dsimp only at hSw); go_simp; try with_reducible rfl)
                    change wpAnyH _ _ _ _ _ _ _ (Act.put _ (some 18) _) _
                    simp only [Act.put, List.setIfInBounds_toArray, List.set_cons_zero, List.set_cons_succ]
                    refine wpAnyH_done (by kernel_rfl) ?_ _
                    (try go_wp2_with fail)
                    go_meet
                    exact ⟨_, RA, rc, RB, rd, rfl, rfl, by omega, KT6, Lib.hid (RW6.out.base_le (by omega)), KA6, KB6, HB6, KW6, OW6, KG6, MG6⟩
        case zo71_1 =>
          go_simp
          refine hK.out _ _ (⟨feed_cells (KA0.out.alloc _), head_cells (KB0.out.alloc _)⟩) (fun hHeld => ?_)
          clear hK K
          (try simp only [Act.put, List.setIfInBounds_toArray, List.set_cons_zero, List.set_cons_succ])
          obtain ⟨U1, HU1⟩ : ∃ U, Hid (U0.alloc (.cells (feedC 0 0 0 0 none 0 0 none 0 0) 28) = U) := ⟨_, rfl⟩
          have hb1 : Below U0.heap.size U0 U1 := by rw [← HU1.out]; exact (Below.refl _ _).alloc (Nat.le_refl _) _
          have KA1 := Lib.hid (KA0.out.below hb1 KA0.out.lt)
          have KB1 := Lib.hid (KB0.out.below hb1 KB0.out.lt)
          have HB1 : Hid (Below w.heap.size w U1) := HB0.out.trans (hb1.mono HB0.out.size)
          have KW1 := Lib.hid (KW0.out.below hb1 KW0.out.lt)
          have OW1 := Lib.hid (OW0.out.below hb1)
          have KG1 := Lib.hid (KG0.out.below hb1 KG0.out.lt)
          have MG1 := Lib.hid (MG0.out.below hb1)
          have hs1 : U0.heap.size ≤ U1.heap.size := hb1.size
          have KT1 : Hid (Blk U1 U0.heap.size 28 (feedC 0 0 0 0 none 0 0 none 0 0)) := by rw [← HU1.out]; exact Blk.new U0 _ _
          have hz1 : U0.heap.size < U1.heap.size := KT1.out.lt
          rw [HU1.out] at hHeld ⊢
          refine wpAnyH_ready (rs := [1]) (by kernel_rfl) (by simp) (AllReadyH.cons rfl (fun K hK => ?zo102_0) AllReadyH.nil)
          case zo102_0 =>
            go_simp
            go_at_call 23
            refine (CA.out U1 HB1.out).mono ?_
            rintro e U2 ⟨ta, tb, rfl, ho2, hb2⟩
            have KA2 := Lib.hid (KA1.out.below hb2 KA1.out.lt)
            have KB2 := Lib.hid (KB1.out.below hb2 KB1.out.lt)
            have HB2 : Hid (Below w.heap.size w U2) := HB1.out.trans (hb2.mono HB1.out.size)
            have KW2 := Lib.hid (KW1.out.below hb2 KW1.out.lt)
            have OW2 := Lib.hid (OW1.out.below hb2)
            have KG2 := Lib.hid (KG1.out.below hb2 KG1.out.lt)
            have MG2 := Lib.hid (MG1.out.below hb2)
            have KT2 := Lib.hid (KT1.out.below hb2 KT1.out.lt)
            have hs2 : U1.heap.size ≤ U2.heap.size := hb2.size
            have TF2 := Lib.hid ho2
            clear ho2
            refine hK.out _ _ (⟨feed_cells KA2.out, head_cells KB2.out⟩) (fun hHeld => ?_)
            clear hK K
            (try simp only [Act.put, List.setIfInBounds_toArray, List.set_cons_zero, List.set_cons_succ])
            refine wpAnyH_ready (rs := [3]) (by kernel_rfl) (by simp) (AllReadyH.cons rfl (fun K hK => ?zo103_0) AllReadyH.nil)
            case zo103_0 =>
              go_simp
              go_at_call 24
              refine (toHead_any hl hd ht U2).mono ?_
              rintro e U3 ⟨rfl, hb3⟩
              have KA3 := Lib.hid (KA2.out.below hb3 KA2.out.lt)
              have KB3 := Lib.hid (KB2.out.below hb3 KB2.out.lt)
              have HB3 : Hid (Below w.heap.size w U3) := HB2.out.trans (hb3.mono HB2.out.size)
              have KW3 := Lib.hid (KW2.out.below hb3 KW2.out.lt)
              have OW3 := Lib.hid (OW2.out.below hb3)
              have KG3 := Lib.hid (KG2.out.below hb3 KG2.out.lt)
              have MG3 := Lib.hid (MG2.out.below hb3)
              have KT3 := Lib.hid (KT2.out.below hb3 KT2.out.lt)
              have TF3 := Lib.hid (TF2.out.below hb3)
              have hs3 : U2.heap.size ≤ U3.heap.size := hb3.size
              refine hK.out _ _ (⟨feed_cells KA3.out, head_cells KB3.out⟩) (fun hHeld => ?_)
              clear hK K
              (try simp only [Act.put, List.setIfInBounds_toArray, List.set_cons_zero, List.set_cons_succ])
              refine wpAnyH_ready (rs := [5]) (by kernel_rfl) (by simp) (AllReadyH.cons rfl (fun K hK => ?zo104_0) AllReadyH.nil)
              case zo104_0 =>
                go_simp
                go_at_call 25
                refine (CZ.out U3 HB3.out).mono ?_
                rintro e U4 ⟨tg, rfl, -, ho4, hb4⟩
                have KA4 := Lib.hid (KA3.out.below hb4 KA3.out.lt)
                have KB4 := Lib.hid (KB3.out.below hb4 KB3.out.lt)
                have HB4 : Hid (Below w.heap.size w U4) := HB3.out.trans (hb4.mono HB3.out.size)
                have KW4 := Lib.hid (KW3.out.below hb4 KW3.out.lt)
                have OW4 := Lib.hid (OW3.out.below hb4)
                have KG4 := Lib.hid (KG3.out.below hb4 KG3.out.lt)
                have MG4 := Lib.hid (MG3.out.below hb4)
                have KT4 := Lib.hid (KT3.out.below hb4 KT3.out.lt)
                have TF4 := Lib.hid (TF3.out.below hb4)
                have hs4 : U3.heap.size ≤ U4.heap.size := hb4.size
                have TI4 := Lib.hid ho4
                clear ho4
                refine hK.out _ _ (⟨feed_cells KA4.out, head_cells KB4.out⟩) (fun hHeld => ?_)
                clear hK K
                (try simp only [Act.put, List.setIfInBounds_toArray, List.set_cons_zero, List.set_cons_succ])
                refine wpAnyH_ready (rs := [6]) (by kernel_rfl) (by simp) (AllReadyH.cons rfl (fun K hK => ?zo105_0) AllReadyH.nil)
                case zo105_0 =>
                  go_simp
                  go_at_call 12
                  refine (feedHead_n p l d s (some ⟨ta, 0, none⟩) nb (some ⟨tb, 0, none⟩) nh bs hs hl hd ht (some ⟨tg, 0, none⟩) ng zs U4 (hE.out.below HB4.out) (by have k := GI.out _ _ _ TI4.out; exact k) TF4.out.at_ HNB.out HNH.out HNG.out HO.out HMB.out HMH.out HC.out).mono ?_
                  rintro e U5 ⟨RA, rc, RB, rd, rfl, ho5, hb5⟩
                  have KA5 := Lib.hid (KA4.out.below hb5 KA4.out.lt)
                  have KB5 := Lib.hid (KB4.out.below hb5 KB4.out.lt)
                  have HB5 : Hid (Below w.heap.size w U5) := HB4.out.trans (hb5.mono HB4.out.size)
                  have KW5 := Lib.hid (KW4.out.below hb5 KW4.out.lt)
                  have OW5 := Lib.hid (OW4.out.below hb5)
                  have KG5 := Lib.hid (KG4.out.below hb5 KG4.out.lt)
                  have MG5 := Lib.hid (MG4.out.below hb5)
                  have KT5 := Lib.hid (KT4.out.below hb5 KT4.out.lt)
                  have TF5 := Lib.hid (TF4.out.below hb5)
                  have TI5 := Lib.hid (TI4.out.below hb5)
                  have hs5 : U4.heap.size ≤ U5.heap.size := hb5.size
                  have RW5 := Lib.hid ho5
                  have HRW := Lib.hid ho5.rows
                  clear ho5
                  refine hK.out _ _ (⟨feed_cells KA5.out, head_cells KB5.out⟩) (fun hHeld => ?_)
                  clear hK K
                  (try simp only [Act.put, List.setIfInBounds_toArray, List.set_cons_zero, List.set_cons_succ])
                  refine wpAnyH_take (i := 7) (v := ?zv106) rfl (by kernel_rfl) (by kernel_rfl) (by kernel_rfl) (fun _ _ _ h => h) (Or.inl ⟨by kernel_rfl, ?zy106⟩) (by assumption) ?zr106
                  case zy106 => (intro w hSw; (try dsimp only at hSw); go_simp; try with_reducible rfl)
                  change wpAnyH _ _ _ _ _ _ _ (Act.put _ (some 98) _) _
                  simp only [Act.put, List.setIfInBounds_toArray, List.set_cons_zero, List.set_cons_succ]
                  refine wpAnyH_take (i := 8) (v := ?zv107) rfl (by kernel_rfl) (by kernel_rfl) (by kernel_rfl) (fun _ _ _ h => h) (Or.inl ⟨by kernel_rfl, ?zy107⟩) (by assumption) ?zr107
                  case zy107 => (intro w hSw; (try dsimp only at hSw); go_simp; try with_reducible rfl)
                  change wpAnyH _ _ _ _ _ _ _ (Act.put _ (some 106) _) _
                  simp only [Act.put, List.setIfInBounds_toArray, List.set_cons_zero, List.set_cons_succ]
                  refine wpAnyH_take (i := 9) (v := ?zv108) rfl (by kernel_rfl) (by kernel_rfl) (by kernel_rfl) (fun _ _ _ h => h) (Or.inl ⟨by kernel_rfl, ?zy108⟩) (by assumption) ?zr108
                  case zy108 => (intro w hSw; (try dsimp only at hSw); go_simp; try with_reducible rfl)
                  change wpAnyH _ _ _ _ _ _ _ (Act.put _ (some 107) _) _
                  simp only [Act.put, List.setIfInBounds_toArray, List.set_cons_zero, List.set_cons_succ]
                  refine wpAnyH_ready (rs := [11]) (by kernel_rfl) (by simp) (AllReadyH.cons rfl (fun K hK => ?zo109_0) AllReadyH.nil)
                  case zo109_0 =>
                    go_simp
                    obtain ⟨n0, n1, n2, n3, n4, n5⟩ := feed_cells KT5.out
                    have nf := blk_frozen KT5.out
                    obtain ⟨U6, HU6⟩ : ∃ U, Hid (((((((U5.setCell ⟨U0.heap.size, 0, none⟩ (.int .i64 op)).setCell ⟨U0.heap.size, 1, none⟩ (.int .i64 ol)).setCell ⟨U0.heap.size, 2, none⟩ (.int .i64 od)).setCell ⟨U0.heap.size, 3, none⟩ (.int .i64 os)).setCell ⟨U0.heap.size, 4, none⟩ (.slice RA mb rc)).setCell ⟨U0.heap.size, 5, none⟩ (.slice RB mh rd)) = U) := ⟨_, rfl⟩
                    have ho6 : ∀ i, i ≠ U0.heap.size → U6.heap[i]? = U5.heap[i]? := by rw [← HU6.out]; exact six_other _ _ _ _ _ _ _ _
                    have hq6 : Below U0.heap.size U5 U6 := by rw [← HU6.out]; exact below_six (Below.refl _ _) (by omega) _ _ _ _ _ _
                    have KT6 : Hid (Blk U6 U0.heap.size 28 (feedC op ol od os RA mb rc RB mh rd)) := by rw [← HU6.out]; exact blk_six KT5.out _ _ _ _ _ _
                    have RW6 : Hid (OwnFeed U6 _ RA rc RB rd obs ohs) := RW5.out.blocks fun r hr => ho6 r (by have := HRW.out r hr; omega)
                    have KA6 := Lib.hid (KA5.out.below hq6 KA0.out.lt)
                    have KB6 := Lib.hid (KB5.out.below hq6 KB0.out.lt)
                    have HB6 : Hid (Below w.heap.size w U6) := HB5.out.trans (hq6.mono HB0.out.size)
                    have KW6 := Lib.hid (KW5.out.below hq6 KW0.out.lt)
                    have OW6 := Lib.hid (OW5.out.blocks fun r hr => ho6 r (by have := OW0.out.rows r hr; omega))
                    have KG6 := Lib.hid (KG5.out.below hq6 KG0.out.lt)
                    have MG6 := Lib.hid (MG5.out.blocks fun r hr => ho6 r (by have := MG0.out.rows r hr; omega))
                    go_simp
                    rw [HU6.out]
                    refine hK.out _ _ (⟨feed_cells KA6.out, head_cells KB6.out⟩) (fun hHeld => ?_)
                    clear hK K
                    (try simp only [Act.put])
                    refine wpAnyH_take (i := 12) (v := ?zv110) rfl (by kernel_rfl) (by kernel_rfl) (by kernel_rfl) (fun _ _ _ h => h) (Or.inl ⟨by kernel_rfl, ?zy110⟩) (by assumption) ?zr110
                    case zy110 => (intro w hSw; (try dsimp only at hSw); go_simp; try with_reducible rfl)
                    change wpAnyH _ _ _ _ _ _ _ (Act.put _ (some 18) _) _
                    simp only [Act.put, List.setIfInBounds_toArray, List.set_cons_zero, List.set_cons_succ]
                    refine wpAnyH_done (by kernel_rfl) ?_ _
                    (try go_wp2_with fail)
                    go_meet
                    exact ⟨_, RA, rc, RB, rd, rfl, rfl, by omega, KT6, Lib.hid (RW6.out.base_le (by omega)), KA6, KB6, HB6, KW6, OW6, KG6, MG6⟩
      case rest =>
      obtain ⟨w17, hwn⟩ : ∃ y, y = wc := ⟨_, rfl⟩
      subst hwn
      obtain ⟨gh, AH, ch, BH, dh, rfl, rfl, hgh, KH17, OH17, KA17, KB17, HB17, KW17, OW17, KG17, MG17⟩ := hcut
      obtain ⟨y0, y1, y2, y3, y4, y5⟩ := feed_cells KH17.out
      obtain ⟨q0, q1, q2, q3, q4, q5⟩ := feed_cells KW17.out
      go_wp2_with fail
      refine (eqFeed_n op ol od os AH ch BH dh AW cw BW dw obs ohs w17 OH17.out.at_ OW17.out.at_ HMB.out HMH.out).mono ?_
      rintro e w18 ⟨rfl, hb18⟩
      have HB18 : Hid (Below w.heap.size w w18) := HB17.out.trans (hb18.mono HB17.out.size)
      have KG18 := Lib.hid (KG17.out.below hb18 KG17.out.lt)
      have MG18 := Lib.hid (MG17.out.below hb18)
      have hs18 : w17.heap.size ≤ w18.heap.size := hb18.size
      clear hb18 y0 y1 y2 y3 y4 y5
      clear q0 q1 q2 q3 q4 q5
      obtain ⟨g0, g1, g2, g3, g4, g5⟩ := feed_cells KG18.out
      go_wp2_with fail
      refine (heldFeed_n op ol od os AG cg BG dg mb mh w18 MG18.out.at_ HOL2.out.1 HOL2.out.2 HK3.out).mono ?_
      rintro e w19 ⟨rfl, hb19⟩
      have HB19 : Hid (Below w.heap.size w w19) := HB18.out.trans (hb19.mono HB18.out.size)
      have KG19 := Lib.hid (KG18.out.below hb19 KG18.out.lt)
      have MG19 := Lib.hid (MG18.out.below hb19)
      have hs19 : w18.heap.size ≤ w19.heap.size := hb19.size
      go_wp2
      go_ret
      exact ⟨rfl, HB19.out⟩
    · clear hr2
      go_wp2
      go_ret
      exact ⟨rfl, HB1.out⟩
  · have h9 : 1048576 < ng := by omega
    clear hz
    go_enter Tryd.func9, Tryd.ntmps9
    go_wp2
    rw [HW.out]
    go_ret
    exact ⟨rfl, HB.out⟩

end Go.Proofs.YtlpdoieiiadhhaaDoor
