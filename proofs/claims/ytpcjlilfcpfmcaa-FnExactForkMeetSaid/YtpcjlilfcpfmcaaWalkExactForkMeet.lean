/- The walk of FnExactForkMeet: it returns true and changes nothing that was there. Condition: the feeds lie in memory. -/
import Derived.Test.YtpcjlilfcpfmcaaSzLeft
import Derived.Test.YtpcjlilfcpfmcaaExactFork
import Derived.Test.YtpcjlilfcpfmcaaForkMeet
import Derived.Test.YtpcjlilfcpfmcaaBaseD
import Derived.Deep.DeepCutAuto
namespace Go.Proofs.Ytpcjlilfcpfmcaa
open Go.RowKit
set_option linter.unusedVariables false

set_option maxHeartbeats 16000000 in
set_option maxRecDepth 100000 in
theorem walkExactForkMeet (p l d s : Int) (A1 : Option Addr) (c1 : Nat) (A2 : Option Addr) (c2 : Nat) (bs : List ByteArray) (hs : List Bool) (q m i t : Int) (A3 : Option Addr) (c3 : Nat) (A4 : Option Addr) (c4 : Nat) (cs : List ByteArray) (ks : List Bool) (w : World) (hF : FeedAt w w.heap.size A1 A2 bs hs) (hG : FeedAt w w.heap.size A3 A4 cs ks) :
    Calls Try.prog 8 #[feedV p l d s A1 bs.length c1 A2 hs.length c2, feedV q m i t A3 cs.length c3 A4 ks.length c4] w fun e w' => e = .returned (.bool true) ∧ Below w.heap.size w w' := by
  have HF := Lib.hid hF
  have HG := Lib.hid hG
  clear hF hG
  obtain ⟨R, HR⟩ : ∃ R, Hid (meetB ⟨p, l, d, s, bs, hs⟩ ⟨q, m, i, t, cs, ks⟩ = R) := ⟨_, rfl⟩
  obtain ⟨v0, v1, v2, v3, v4, v5, v6, HM⟩ : ∃ v0 v1 v2 v3 v4 v5 v6, Hid (meetV R p l d s m i t = forkV v0 v1 v2 v3 v4 v5 v6) := by
    cases R
    · exact ⟨_, _, _, _, _, _, _, meetV_no _ _ _ _ _ _ _⟩
    · exact ⟨_, _, _, _, _, _, _, meetV_yes _ _ _ _ _ _ _⟩
  obtain ⟨nb, HNB⟩ : ∃ n, Hid (bs.length = n) := ⟨_, rfl⟩
  obtain ⟨nh, HNH⟩ : ∃ n, Hid (hs.length = n) := ⟨_, rfl⟩
  obtain ⟨nc, HNC⟩ : ∃ n, Hid (cs.length = n) := ⟨_, rfl⟩
  obtain ⟨nk, HNK⟩ : ∃ n, Hid (ks.length = n) := ⟨_, rfl⟩
  have hne : (R != R) = false := by simp
  obtain ⟨W, HW⟩ : ∃ W, Hid ((w.alloc (.cells (feedC p l d s A1 nb c1 A2 nh c2) 46)).alloc (.cells (feedC q m i t A3 nc c3 A4 nk c4) 46) = W) := ⟨_, rfl⟩
  have KA : Hid (Blk W w.heap.size 46 (feedC p l d s A1 nb c1 A2 nh c2)) := by rw [← HW.out]; exact (Blk.new w _ _).alloc _
  have KB : Hid (Blk W (w.heap.size + 1) 46 (feedC q m i t A3 nc c3 A4 nk c4)) := by
    rw [← HW.out]
    have h := Blk.new (w.alloc (.cells (feedC p l d s A1 nb c1 A2 nh c2) 46)) 46 (feedC q m i t A3 nc c3 A4 nk c4)
    rw [World.size_alloc] at h
    exact h
  have HB : Hid (Below w.heap.size w W) := by rw [← HW.out]; exact ((Below.refl _ w).alloc (Nat.le_refl _) _).alloc (by simp) _
  have CI : Hid (∀ (U : World) (g1 g2 g3 g4 : Nat), FeedAt U U.heap.size (some ⟨g1, 0, none⟩) (some ⟨g2, 0, none⟩) bs hs → FeedAt U U.heap.size (some ⟨g3, 0, none⟩) (some ⟨g4, 0, none⟩) cs ks → Calls Try.prog 14 #[feedV p l d s (some ⟨g1, 0, none⟩) nb nb (some ⟨g2, 0, none⟩) nh nh, feedV q m i t (some ⟨g3, 0, none⟩) nc nc (some ⟨g4, 0, none⟩) nk nk] U fun e w' => e = .returned (.tuple #[forkV v0 v1 v2 v3 v4 v5 v6, .bool R]) ∧ Below U.heap.size U w') := fun U g1 g2 g3 g4 h1 h2 => by
    have h := forkMeet_any p l d s (some ⟨g1, 0, none⟩) nb (some ⟨g2, 0, none⟩) nh bs hs q m i t (some ⟨g3, 0, none⟩) nc (some ⟨g4, 0, none⟩) nk cs ks U h1 h2
    rw [HR.out, HM.out, HNB.out, HNH.out, HNC.out, HNK.out] at h
    exact h
  have CS : Hid (∀ (U : World) (g1 g2 g3 g4 : Nat), FeedAt U U.heap.size (some ⟨g1, 0, none⟩) (some ⟨g2, 0, none⟩) bs hs → FeedAt U U.heap.size (some ⟨g3, 0, none⟩) (some ⟨g4, 0, none⟩) cs ks → Calls Try.prog 15 #[feedV p l d s (some ⟨g1, 0, none⟩) nb nb (some ⟨g2, 0, none⟩) nh nh, feedV q m i t (some ⟨g3, 0, none⟩) nc nc (some ⟨g4, 0, none⟩) nk nk] U fun e w' => e = .returned (.tuple #[forkV v0 v1 v2 v3 v4 v5 v6, .bool R]) ∧ Below U.heap.size U w') := fun U g1 g2 g3 g4 h1 h2 => by
    have h := sforkMeet_any p l d s (some ⟨g1, 0, none⟩) nb (some ⟨g2, 0, none⟩) nh bs hs q m i t (some ⟨g3, 0, none⟩) nc (some ⟨g4, 0, none⟩) nk cs ks U h1 h2
    rw [HR.out, HM.out, HNB.out, HNH.out, HNC.out, HNK.out] at h
    exact h
  have Z1 := Lib.hid (szFeed_left 1048576 (by omega) (by omega) p l d s A1 c1 A2 c2 bs hs W (HF.out.belowS HB.out))
  rw [HNB.out, HNH.out] at Z1
  rw [HNB.out, HNH.out, HNC.out, HNK.out]
  go_enter Try.func8, Try.ntmps8
  go_wp2_with fail
  rw [HW.out]
  refine Z1.out.mono ?_
  rintro e w1 ⟨r1, rfl, hr0, hr1, hr2, hb1⟩
  have KA1 := Lib.hid (KA.out.below hb1 KA.out.lt)
  have KB1 := Lib.hid (KB.out.below hb1 KB.out.lt)
  have HB1 : Hid (Below w.heap.size w w1) := HB.out.trans (hb1.mono HB.out.size)
  clear hb1
  by_cases hr : 0 ≤ r1
  · have HL1 := Lib.hid (hr2 hr)
    clear hr2
    have Z2 := Lib.hid (szFeed_left r1 hr hr1 q m i t A3 c3 A4 c4 cs ks w1 (HG.out.belowS HB1.out))
    rw [HNC.out, HNK.out] at Z2
    obtain ⟨b0, b1, b2, b3, b4, b5⟩ := feed_cells KB1.out
    go_wp2_with fail
    refine Z2.out.mono ?_
    rintro e w2 ⟨r2, rfl, hu0, hu1, hu2, hb2⟩
    have KA2 := Lib.hid (KA1.out.below hb2 KA1.out.lt)
    have KB2 := Lib.hid (KB1.out.below hb2 KB1.out.lt)
    have HB2 : Hid (Below w.heap.size w w2) := HB1.out.trans (hb2.mono HB1.out.size)
    clear hb2 b0 b1 b2 b3 b4 b5
    by_cases hu : 0 ≤ r2
    · have HL2 := Lib.hid (hu2 hu)
      clear hu2
      have CA : Hid (∀ U, Below w.heap.size w U → Calls Try.prog 19 #[feedV p l d s A1 nb c1 A2 nh c2] U (CopiedN U p l d s bs hs nb nh)) := fun U hU => toFeed_n p l d s A1 c1 A2 c2 bs hs U (HF.out.belowS hU) HL1.out.1 HL1.out.2 HNB.out HNH.out
      have CB : Hid (∀ U, Below w.heap.size w U → Calls Try.prog 19 #[feedV q m i t A3 nc c3 A4 nk c4] U (CopiedN U q m i t cs ks nc nk)) := fun U hU => toFeed_n q m i t A3 c3 A4 c4 cs ks U (HG.out.belowS hU) HL2.out.1 HL2.out.2 HNC.out HNK.out
      go_upto_region 8 with fail
      go_cut [6, 7] (fun s6 s7 wx => ∃ gf : Nat, s6 = .pointer (some ⟨gf, 0, none⟩) ∧ s7 = .bool R ∧ w.heap.size + 1 < gf ∧ Hid (Blk wx gf 26 (forkC v0 v1 v2 v3 v4 v5 v6)) ∧ Hid (Blk wx w.heap.size 46 (feedC p l d s A1 nb c1 A2 nh c2)) ∧ Hid (Blk wx (w.heap.size + 1) 46 (feedC q m i t A3 nc c3 A4 nk c4)) ∧ Hid (Below w.heap.size w wx))
      case first =>
        (try go_wp2_with fail)
        refine wp_region_held_drew (S := fun w' => (w'.cell? ⟨w.heap.size, 0, none⟩ = some (.int .i64 p) ∧ w'.cell? ⟨w.heap.size, 1, none⟩ = some (.int .i64 l) ∧ w'.cell? ⟨w.heap.size, 2, none⟩ = some (.int .i64 d) ∧ w'.cell? ⟨w.heap.size, 3, none⟩ = some (.int .i64 s) ∧ w'.cell? ⟨w.heap.size, 4, none⟩ = some (.slice A1 nb c1) ∧ w'.cell? ⟨w.heap.size, 5, none⟩ = some (.slice A2 nh c2)) ∧ (w'.cell? ⟨w.heap.size + 1, 0, none⟩ = some (.int .i64 q) ∧ w'.cell? ⟨w.heap.size + 1, 1, none⟩ = some (.int .i64 m) ∧ w'.cell? ⟨w.heap.size + 1, 2, none⟩ = some (.int .i64 i) ∧ w'.cell? ⟨w.heap.size + 1, 3, none⟩ = some (.int .i64 t) ∧ w'.cell? ⟨w.heap.size + 1, 4, none⟩ = some (.slice A3 nc c3) ∧ w'.cell? ⟨w.heap.size + 1, 5, none⟩ = some (.slice A4 nk c4))) (by kernel_rfl) (⟨feed_cells KA2.out, feed_cells KB2.out⟩) (fun hHeld => ?_)
        obtain ⟨U0, HU0⟩ : ∃ U, Hid (w2.drew = U) := ⟨_, rfl⟩
        have KA0 : Hid (Blk U0 w.heap.size 46 (feedC p l d s A1 nb c1 A2 nh c2)) := by rw [← HU0.out]; exact KA2.out
        have KB0 : Hid (Blk U0 (w.heap.size + 1) 46 (feedC q m i t A3 nc c3 A4 nk c4)) := by rw [← HU0.out]; exact KB2.out
        have HB0 : Hid (Below w.heap.size w U0) := by rw [← HU0.out]; exact below_drew HB2.out
        rw [HU0.out] at hHeld ⊢
        refine wpAnyH_take (i := 0) (v := ?zv1) rfl (by kernel_rfl) (by kernel_rfl) (by kernel_rfl) (fun _ _ _ h => h) (Or.inl ⟨by kernel_rfl, ?zy1⟩) (by assumption) ?zr1
        case zy1 => (intro w hSw; (try dsimp only at hSw); go_simp; try with_reducible rfl)
        change wpAnyH _ _ _ _ _ _ _ (Act.put _ (some 23) _) _
        simp only [Act.put, List.setIfInBounds_toArray, List.set_cons_zero, List.set_cons_succ]
        refine wpAnyH_take (i := 2) (v := ?zv2) rfl (by kernel_rfl) (by kernel_rfl) (by kernel_rfl) (fun _ _ _ h => h) (Or.inl ⟨by kernel_rfl, ?zy2⟩) (by assumption) ?zr2
        case zy2 => (intro w hSw; (try dsimp only at hSw); go_simp; try with_reducible rfl)
        change wpAnyH _ _ _ _ _ _ _ (Act.put _ (some 25) _) _
        simp only [Act.put, List.setIfInBounds_toArray, List.set_cons_zero, List.set_cons_succ]
        refine wpAnyH_ready (rs := [1, 8]) (by kernel_rfl) (by simp) (AllReadyH.cons rfl (fun K hK => ?zo3_0) (AllReadyH.cons rfl (fun K hK => ?zo3_1) AllReadyH.nil))
        case zo3_0 =>
          go_simp
          go_at_call 19
          refine (CA.out U0 HB0.out).mono ?_
          rintro e U1 ⟨gOFa, gOFb, rfl, ho1, hb1⟩
          have KA1 := Lib.hid (KA0.out.below hb1 KA0.out.lt)
          have KB1 := Lib.hid (KB0.out.below hb1 KB0.out.lt)
          have HB1 : Hid (Below w.heap.size w U1) := HB0.out.trans (hb1.mono HB0.out.size)
          have OF1 := Lib.hid ho1
          clear ho1
          refine hK.out _ _ (⟨feed_cells KA1.out, feed_cells KB1.out⟩) (fun hHeld => ?_)
          clear hK K
          (try simp only [Act.put, List.setIfInBounds_toArray, List.set_cons_zero, List.set_cons_succ])
          refine wpAnyH_ready (rs := [3, 8]) (by kernel_rfl) (by simp) (AllReadyH.cons rfl (fun K hK => ?zo4_0) (AllReadyH.cons rfl (fun K hK => ?zo4_1) AllReadyH.nil))
          case zo4_0 =>
            go_simp
            go_at_call 19
            refine (CB.out U1 HB1.out).mono ?_
            rintro e U2 ⟨gOGa, gOGb, rfl, ho2, hb2⟩
            have KA2 := Lib.hid (KA1.out.below hb2 KA1.out.lt)
            have KB2 := Lib.hid (KB1.out.below hb2 KB1.out.lt)
            have HB2 : Hid (Below w.heap.size w U2) := HB1.out.trans (hb2.mono HB1.out.size)
            have OF2 := Lib.hid (OF1.out.below hb2)
            have OG2 := Lib.hid ho2
            clear ho2
            refine hK.out _ _ (⟨feed_cells KA2.out, feed_cells KB2.out⟩) (fun hHeld => ?_)
            clear hK K
            (try simp only [Act.put, List.setIfInBounds_toArray, List.set_cons_zero, List.set_cons_succ])
            refine wpAnyH_ready (rs := [4, 8]) (by kernel_rfl) (by simp) (AllReadyH.cons rfl (fun K hK => ?zo5_0) (AllReadyH.cons rfl (fun K hK => ?zo5_1) AllReadyH.nil))
            case zo5_0 =>
              go_simp
              go_at_call 15
              refine (CS.out U2 gOFa gOFb gOGa gOGb OF2.out.at_ OG2.out.at_).mono ?_
              rintro e U3 ⟨rfl, hb3⟩
              have KA3 := Lib.hid (KA2.out.below hb3 KA2.out.lt)
              have KB3 := Lib.hid (KB2.out.below hb3 KB2.out.lt)
              have HB3 : Hid (Below w.heap.size w U3) := HB2.out.trans (hb3.mono HB2.out.size)
              have OF3 := Lib.hid (OF2.out.below hb3)
              have OG3 := Lib.hid (OG2.out.below hb3)
              refine hK.out _ _ (⟨feed_cells KA3.out, feed_cells KB3.out⟩) (fun hHeld => ?_)
              clear hK K
              (try simp only [Act.put, List.setIfInBounds_toArray, List.set_cons_zero, List.set_cons_succ])
              refine wpAnyH_take (i := 5) (v := ?zv6) rfl (by kernel_rfl) (by kernel_rfl) (by kernel_rfl) (fun _ _ _ h => h) (Or.inl ⟨by kernel_rfl, ?zy6⟩) (by assumption) ?zr6
              case zy6 => (intro w hSw; (try dsimp only at hSw); go_simp; try with_reducible rfl)
              change wpAnyH _ _ _ _ _ _ _ (Act.put _ (some 22) _) _
              simp only [Act.put, List.setIfInBounds_toArray, List.set_cons_zero, List.set_cons_succ]
              refine wpAnyH_take (i := 6) (v := ?zv7) rfl (by kernel_rfl) (by kernel_rfl) (by kernel_rfl) (fun _ _ _ h => h) (Or.inl ⟨by kernel_rfl, ?zy7⟩) (by assumption) ?zr7
              case zy7 => (intro w hSw; (try dsimp only at hSw); go_simp; try with_reducible rfl)
              change wpAnyH _ _ _ _ _ _ _ (Act.put _ (some 28) _) _
              simp only [Act.put, List.setIfInBounds_toArray, List.set_cons_zero, List.set_cons_succ]
              refine wpAnyH_take (i := 7) (v := ?zv8) rfl (by kernel_rfl) (by kernel_rfl) (by kernel_rfl) (fun _ _ _ h => h) (Or.inl ⟨by kernel_rfl, ?zy8⟩) (by assumption) ?zr8
              case zy8 => (intro w hSw; (try dsimp only at hSw); go_simp; try with_reducible rfl)
              change wpAnyH _ _ _ _ _ _ _ (Act.put _ (some 29) _) _
              simp only [Act.put, List.setIfInBounds_toArray, List.set_cons_zero, List.set_cons_succ]
              refine wpAnyH_ready (rs := [8]) (by kernel_rfl) (by simp) (AllReadyH.cons rfl (fun K hK => ?zo9_0) AllReadyH.nil)
              case zo9_0 =>
                go_simp
                refine hK.out _ _ (⟨feed_cells (KA3.out.alloc _), feed_cells (KB3.out.alloc _)⟩) (fun hHeld => ?_)
                clear hK K
                (try simp only [Act.put, List.setIfInBounds_toArray, List.set_cons_zero, List.set_cons_succ])
                obtain ⟨U4, HU4⟩ : ∃ U, Hid (U3.alloc (.cells (forkC 0 0 0 0 0 0 0) 26) = U) := ⟨_, rfl⟩
                have hb4 : Below U3.heap.size U3 U4 := by rw [← HU4.out]; exact (Below.refl _ _).alloc (Nat.le_refl _) _
                have KA4 := Lib.hid (KA3.out.below hb4 KA3.out.lt)
                have KB4 := Lib.hid (KB3.out.below hb4 KB3.out.lt)
                have HB4 : Hid (Below w.heap.size w U4) := HB3.out.trans (hb4.mono HB3.out.size)
                have OF4 := Lib.hid (OF3.out.below hb4)
                have OG4 := Lib.hid (OG3.out.below hb4)
                have KT4 : Hid (Blk U4 U3.heap.size 26 (forkC 0 0 0 0 0 0 0)) := by rw [← HU4.out]; exact Blk.new U3 _ _
                have hz4 : U3.heap.size < U4.heap.size := KT4.out.lt
                have hy4 : w.heap.size + 1 < U3.heap.size := KB3.out.lt
                rw [HU4.out] at hHeld ⊢
                refine wpAnyH_ready (rs := [9]) (by kernel_rfl) (by simp) (AllReadyH.cons rfl (fun K hK => ?zo10_0) AllReadyH.nil)
                case zo10_0 =>
                  go_simp
                  obtain ⟨n0, n1, n2, n3, n4, n5, n6⟩ := fork_cells KT4.out
                  have nf := blk_frozen KT4.out
                  obtain ⟨U5, HU5⟩ : ∃ U, Hid ((((((((U4.setCell ⟨U3.heap.size, 0, none⟩ (.int .i64 v0)).setCell ⟨U3.heap.size, 1, none⟩ (.int .i64 v1)).setCell ⟨U3.heap.size, 2, none⟩ (.int .i64 v2)).setCell ⟨U3.heap.size, 3, none⟩ (.int .i64 v3)).setCell ⟨U3.heap.size, 4, none⟩ (.int .i64 v4)).setCell ⟨U3.heap.size, 5, none⟩ (.int .i64 v5)).setCell ⟨U3.heap.size, 6, none⟩ (.int .i64 v6)) = U) := ⟨_, rfl⟩
                  have hq5 : Below (w.heap.size + 1 + 1) U4 U5 := by rw [← HU5.out]; exact below_seven (Below.refl _ _) (by omega) _ _ _ _ _ _ _
                  have KT5 : Hid (Blk U5 U3.heap.size 26 (forkC v0 v1 v2 v3 v4 v5 v6)) := by rw [← HU5.out]; exact blk_seven KT4.out _ _ _ _ _ _ _
                  have KA5 := Lib.hid (KA4.out.below hq5 (by omega))
                  have KB5 := Lib.hid (KB4.out.below hq5 (by omega))
                  have HB5 : Hid (Below w.heap.size w U5) := HB4.out.trans (hq5.mono (by omega))
                  go_simp
                  rw [HU5.out]
                  refine hK.out _ _ (⟨feed_cells KA5.out, feed_cells KB5.out⟩) (fun hHeld => ?_)
                  clear hK K
                  (try simp only [Act.put])
                  refine wpAnyH_take (i := 10) (v := ?zv11) rfl (by kernel_rfl) (by kernel_rfl) (by kernel_rfl) (fun _ _ _ h => h) (Or.inl ⟨by kernel_rfl, ?zy11⟩) (by assumption) ?zr11
                  case zy11 => (intro w hSw; (try dsimp only at hSw); go_simp; try with_reducible rfl)
                  change wpAnyH _ _ _ _ _ _ _ (Act.put _ (some 7) _) _
                  simp only [Act.put, List.setIfInBounds_toArray, List.set_cons_zero, List.set_cons_succ]
                  refine wpAnyH_done (by kernel_rfl) ?_ _
                  (try go_wp2_with fail)
                  go_meet
                  exact ⟨_, rfl, rfl, by omega, KT5, KA5, KB5, HB5⟩
            case zo5_1 =>
              go_simp
              refine hK.out _ _ (⟨feed_cells (KA2.out.alloc _), feed_cells (KB2.out.alloc _)⟩) (fun hHeld => ?_)
              clear hK K
              (try simp only [Act.put, List.setIfInBounds_toArray, List.set_cons_zero, List.set_cons_succ])
              obtain ⟨U3, HU3⟩ : ∃ U, Hid (U2.alloc (.cells (forkC 0 0 0 0 0 0 0) 26) = U) := ⟨_, rfl⟩
              have hb3 : Below U2.heap.size U2 U3 := by rw [← HU3.out]; exact (Below.refl _ _).alloc (Nat.le_refl _) _
              have KA3 := Lib.hid (KA2.out.below hb3 KA2.out.lt)
              have KB3 := Lib.hid (KB2.out.below hb3 KB2.out.lt)
              have HB3 : Hid (Below w.heap.size w U3) := HB2.out.trans (hb3.mono HB2.out.size)
              have OF3 := Lib.hid (OF2.out.below hb3)
              have OG3 := Lib.hid (OG2.out.below hb3)
              have KT3 : Hid (Blk U3 U2.heap.size 26 (forkC 0 0 0 0 0 0 0)) := by rw [← HU3.out]; exact Blk.new U2 _ _
              have hz3 : U2.heap.size < U3.heap.size := KT3.out.lt
              have hy3 : w.heap.size + 1 < U2.heap.size := KB2.out.lt
              rw [HU3.out] at hHeld ⊢
              refine wpAnyH_ready (rs := [4]) (by kernel_rfl) (by simp) (AllReadyH.cons rfl (fun K hK => ?zo12_0) AllReadyH.nil)
              case zo12_0 =>
                go_simp
                go_at_call 15
                refine (CS.out U3 gOFa gOFb gOGa gOGb OF3.out.at_ OG3.out.at_).mono ?_
                rintro e U4 ⟨rfl, hb4⟩
                have KA4 := Lib.hid (KA3.out.below hb4 KA3.out.lt)
                have KB4 := Lib.hid (KB3.out.below hb4 KB3.out.lt)
                have HB4 : Hid (Below w.heap.size w U4) := HB3.out.trans (hb4.mono HB3.out.size)
                have OF4 := Lib.hid (OF3.out.below hb4)
                have OG4 := Lib.hid (OG3.out.below hb4)
                have KT4 := Lib.hid (KT3.out.below hb4 KT3.out.lt)
                refine hK.out _ _ (⟨feed_cells KA4.out, feed_cells KB4.out⟩) (fun hHeld => ?_)
                clear hK K
                (try simp only [Act.put, List.setIfInBounds_toArray, List.set_cons_zero, List.set_cons_succ])
                refine wpAnyH_take (i := 5) (v := ?zv13) rfl (by kernel_rfl) (by kernel_rfl) (by kernel_rfl) (fun _ _ _ h => h) (Or.inl ⟨by kernel_rfl, ?zy13⟩) (by assumption) ?zr13
                case zy13 => (intro w hSw; (try dsimp only at hSw); go_simp; try with_reducible rfl)
                change wpAnyH _ _ _ _ _ _ _ (Act.put _ (some 22) _) _
                simp only [Act.put, List.setIfInBounds_toArray, List.set_cons_zero, List.set_cons_succ]
                refine wpAnyH_take (i := 6) (v := ?zv14) rfl (by kernel_rfl) (by kernel_rfl) (by kernel_rfl) (fun _ _ _ h => h) (Or.inl ⟨by kernel_rfl, ?zy14⟩) (by assumption) ?zr14
                case zy14 => (intro w hSw; (try dsimp only at hSw); go_simp; try with_reducible rfl)
                change wpAnyH _ _ _ _ _ _ _ (Act.put _ (some 28) _) _
                simp only [Act.put, List.setIfInBounds_toArray, List.set_cons_zero, List.set_cons_succ]
                refine wpAnyH_take (i := 7) (v := ?zv15) rfl (by kernel_rfl) (by kernel_rfl) (by kernel_rfl) (fun _ _ _ h => h) (Or.inl ⟨by kernel_rfl, ?zy15⟩) (by assumption) ?zr15
                case zy15 => (intro w hSw; (try dsimp only at hSw); go_simp; try with_reducible rfl)
                change wpAnyH _ _ _ _ _ _ _ (Act.put _ (some 29) _) _
                simp only [Act.put, List.setIfInBounds_toArray, List.set_cons_zero, List.set_cons_succ]
                refine wpAnyH_ready (rs := [9]) (by kernel_rfl) (by simp) (AllReadyH.cons rfl (fun K hK => ?zo16_0) AllReadyH.nil)
                case zo16_0 =>
                  go_simp
                  obtain ⟨n0, n1, n2, n3, n4, n5, n6⟩ := fork_cells KT4.out
                  have nf := blk_frozen KT4.out
                  obtain ⟨U5, HU5⟩ : ∃ U, Hid ((((((((U4.setCell ⟨U2.heap.size, 0, none⟩ (.int .i64 v0)).setCell ⟨U2.heap.size, 1, none⟩ (.int .i64 v1)).setCell ⟨U2.heap.size, 2, none⟩ (.int .i64 v2)).setCell ⟨U2.heap.size, 3, none⟩ (.int .i64 v3)).setCell ⟨U2.heap.size, 4, none⟩ (.int .i64 v4)).setCell ⟨U2.heap.size, 5, none⟩ (.int .i64 v5)).setCell ⟨U2.heap.size, 6, none⟩ (.int .i64 v6)) = U) := ⟨_, rfl⟩
                  have hq5 : Below (w.heap.size + 1 + 1) U4 U5 := by rw [← HU5.out]; exact below_seven (Below.refl _ _) (by omega) _ _ _ _ _ _ _
                  have KT5 : Hid (Blk U5 U2.heap.size 26 (forkC v0 v1 v2 v3 v4 v5 v6)) := by rw [← HU5.out]; exact blk_seven KT4.out _ _ _ _ _ _ _
                  have KA5 := Lib.hid (KA4.out.below hq5 (by omega))
                  have KB5 := Lib.hid (KB4.out.below hq5 (by omega))
                  have HB5 : Hid (Below w.heap.size w U5) := HB4.out.trans (hq5.mono (by omega))
                  go_simp
                  rw [HU5.out]
                  refine hK.out _ _ (⟨feed_cells KA5.out, feed_cells KB5.out⟩) (fun hHeld => ?_)
                  clear hK K
                  (try simp only [Act.put])
                  refine wpAnyH_take (i := 10) (v := ?zv17) rfl (by kernel_rfl) (by kernel_rfl) (by kernel_rfl) (fun _ _ _ h => h) (Or.inl ⟨by kernel_rfl, ?zy17⟩) (by assumption) ?zr17
                  case zy17 => (intro w hSw; (try dsimp only at hSw); go_simp; try with_reducible rfl)
                  change wpAnyH _ _ _ _ _ _ _ (Act.put _ (some 7) _) _
                  simp only [Act.put, List.setIfInBounds_toArray, List.set_cons_zero, List.set_cons_succ]
                  refine wpAnyH_done (by kernel_rfl) ?_ _
                  (try go_wp2_with fail)
                  go_meet
                  exact ⟨_, rfl, rfl, by omega, KT5, KA5, KB5, HB5⟩
          case zo4_1 =>
            go_simp
            refine hK.out _ _ (⟨feed_cells (KA1.out.alloc _), feed_cells (KB1.out.alloc _)⟩) (fun hHeld => ?_)
            clear hK K
            (try simp only [Act.put, List.setIfInBounds_toArray, List.set_cons_zero, List.set_cons_succ])
            obtain ⟨U2, HU2⟩ : ∃ U, Hid (U1.alloc (.cells (forkC 0 0 0 0 0 0 0) 26) = U) := ⟨_, rfl⟩
            have hb2 : Below U1.heap.size U1 U2 := by rw [← HU2.out]; exact (Below.refl _ _).alloc (Nat.le_refl _) _
            have KA2 := Lib.hid (KA1.out.below hb2 KA1.out.lt)
            have KB2 := Lib.hid (KB1.out.below hb2 KB1.out.lt)
            have HB2 : Hid (Below w.heap.size w U2) := HB1.out.trans (hb2.mono HB1.out.size)
            have OF2 := Lib.hid (OF1.out.below hb2)
            have KT2 : Hid (Blk U2 U1.heap.size 26 (forkC 0 0 0 0 0 0 0)) := by rw [← HU2.out]; exact Blk.new U1 _ _
            have hz2 : U1.heap.size < U2.heap.size := KT2.out.lt
            have hy2 : w.heap.size + 1 < U1.heap.size := KB1.out.lt
            rw [HU2.out] at hHeld ⊢
            refine wpAnyH_ready (rs := [3]) (by kernel_rfl) (by simp) (AllReadyH.cons rfl (fun K hK => ?zo18_0) AllReadyH.nil)
            case zo18_0 =>
              go_simp
              go_at_call 19
              refine (CB.out U2 HB2.out).mono ?_
              rintro e U3 ⟨gOGa, gOGb, rfl, ho3, hb3⟩
              have KA3 := Lib.hid (KA2.out.below hb3 KA2.out.lt)
              have KB3 := Lib.hid (KB2.out.below hb3 KB2.out.lt)
              have HB3 : Hid (Below w.heap.size w U3) := HB2.out.trans (hb3.mono HB2.out.size)
              have OF3 := Lib.hid (OF2.out.below hb3)
              have KT3 := Lib.hid (KT2.out.below hb3 KT2.out.lt)
              have OG3 := Lib.hid ho3
              clear ho3
              refine hK.out _ _ (⟨feed_cells KA3.out, feed_cells KB3.out⟩) (fun hHeld => ?_)
              clear hK K
              (try simp only [Act.put, List.setIfInBounds_toArray, List.set_cons_zero, List.set_cons_succ])
              refine wpAnyH_ready (rs := [4]) (by kernel_rfl) (by simp) (AllReadyH.cons rfl (fun K hK => ?zo19_0) AllReadyH.nil)
              case zo19_0 =>
                go_simp
                go_at_call 15
                refine (CS.out U3 gOFa gOFb gOGa gOGb OF3.out.at_ OG3.out.at_).mono ?_
                rintro e U4 ⟨rfl, hb4⟩
                have KA4 := Lib.hid (KA3.out.below hb4 KA3.out.lt)
                have KB4 := Lib.hid (KB3.out.below hb4 KB3.out.lt)
                have HB4 : Hid (Below w.heap.size w U4) := HB3.out.trans (hb4.mono HB3.out.size)
                have OF4 := Lib.hid (OF3.out.below hb4)
                have KT4 := Lib.hid (KT3.out.below hb4 KT3.out.lt)
                have OG4 := Lib.hid (OG3.out.below hb4)
                refine hK.out _ _ (⟨feed_cells KA4.out, feed_cells KB4.out⟩) (fun hHeld => ?_)
                clear hK K
                (try simp only [Act.put, List.setIfInBounds_toArray, List.set_cons_zero, List.set_cons_succ])
                refine wpAnyH_take (i := 5) (v := ?zv20) rfl (by kernel_rfl) (by kernel_rfl) (by kernel_rfl) (fun _ _ _ h => h) (Or.inl ⟨by kernel_rfl, ?zy20⟩) (by assumption) ?zr20
                case zy20 => (intro w hSw; (try dsimp only at hSw); go_simp; try with_reducible rfl)
                change wpAnyH _ _ _ _ _ _ _ (Act.put _ (some 22) _) _
                simp only [Act.put, List.setIfInBounds_toArray, List.set_cons_zero, List.set_cons_succ]
                refine wpAnyH_take (i := 6) (v := ?zv21) rfl (by kernel_rfl) (by kernel_rfl) (by kernel_rfl) (fun _ _ _ h => h) (Or.inl ⟨by kernel_rfl, ?zy21⟩) (by assumption) ?zr21
                case zy21 => (intro w hSw; (try dsimp only at hSw); go_simp; try with_reducible rfl)
                change wpAnyH _ _ _ _ _ _ _ (Act.put _ (some 28) _) _
                simp only [Act.put, List.setIfInBounds_toArray, List.set_cons_zero, List.set_cons_succ]
                refine wpAnyH_take (i := 7) (v := ?zv22) rfl (by kernel_rfl) (by kernel_rfl) (by kernel_rfl) (fun _ _ _ h => h) (Or.inl ⟨by kernel_rfl, ?zy22⟩) (by assumption) ?zr22
                case zy22 => (intro w hSw; (try dsimp only at hSw); go_simp; try with_reducible rfl)
                change wpAnyH _ _ _ _ _ _ _ (Act.put _ (some 29) _) _
                simp only [Act.put, List.setIfInBounds_toArray, List.set_cons_zero, List.set_cons_succ]
                refine wpAnyH_ready (rs := [9]) (by kernel_rfl) (by simp) (AllReadyH.cons rfl (fun K hK => ?zo23_0) AllReadyH.nil)
                case zo23_0 =>
                  go_simp
                  obtain ⟨n0, n1, n2, n3, n4, n5, n6⟩ := fork_cells KT4.out
                  have nf := blk_frozen KT4.out
                  obtain ⟨U5, HU5⟩ : ∃ U, Hid ((((((((U4.setCell ⟨U1.heap.size, 0, none⟩ (.int .i64 v0)).setCell ⟨U1.heap.size, 1, none⟩ (.int .i64 v1)).setCell ⟨U1.heap.size, 2, none⟩ (.int .i64 v2)).setCell ⟨U1.heap.size, 3, none⟩ (.int .i64 v3)).setCell ⟨U1.heap.size, 4, none⟩ (.int .i64 v4)).setCell ⟨U1.heap.size, 5, none⟩ (.int .i64 v5)).setCell ⟨U1.heap.size, 6, none⟩ (.int .i64 v6)) = U) := ⟨_, rfl⟩
                  have hq5 : Below (w.heap.size + 1 + 1) U4 U5 := by rw [← HU5.out]; exact below_seven (Below.refl _ _) (by omega) _ _ _ _ _ _ _
                  have KT5 : Hid (Blk U5 U1.heap.size 26 (forkC v0 v1 v2 v3 v4 v5 v6)) := by rw [← HU5.out]; exact blk_seven KT4.out _ _ _ _ _ _ _
                  have KA5 := Lib.hid (KA4.out.below hq5 (by omega))
                  have KB5 := Lib.hid (KB4.out.below hq5 (by omega))
                  have HB5 : Hid (Below w.heap.size w U5) := HB4.out.trans (hq5.mono (by omega))
                  go_simp
                  rw [HU5.out]
                  refine hK.out _ _ (⟨feed_cells KA5.out, feed_cells KB5.out⟩) (fun hHeld => ?_)
                  clear hK K
                  (try simp only [Act.put])
                  refine wpAnyH_take (i := 10) (v := ?zv24) rfl (by kernel_rfl) (by kernel_rfl) (by kernel_rfl) (fun _ _ _ h => h) (Or.inl ⟨by kernel_rfl, ?zy24⟩) (by assumption) ?zr24
                  case zy24 => (intro w hSw; (try dsimp only at hSw); go_simp; try with_reducible rfl)
                  change wpAnyH _ _ _ _ _ _ _ (Act.put _ (some 7) _) _
                  simp only [Act.put, List.setIfInBounds_toArray, List.set_cons_zero, List.set_cons_succ]
                  refine wpAnyH_done (by kernel_rfl) ?_ _
                  (try go_wp2_with fail)
                  go_meet
                  exact ⟨_, rfl, rfl, by omega, KT5, KA5, KB5, HB5⟩
        case zo3_1 =>
          go_simp
          refine hK.out _ _ (⟨feed_cells (KA0.out.alloc _), feed_cells (KB0.out.alloc _)⟩) (fun hHeld => ?_)
          clear hK K
          (try simp only [Act.put, List.setIfInBounds_toArray, List.set_cons_zero, List.set_cons_succ])
          obtain ⟨U1, HU1⟩ : ∃ U, Hid (U0.alloc (.cells (forkC 0 0 0 0 0 0 0) 26) = U) := ⟨_, rfl⟩
          have hb1 : Below U0.heap.size U0 U1 := by rw [← HU1.out]; exact (Below.refl _ _).alloc (Nat.le_refl _) _
          have KA1 := Lib.hid (KA0.out.below hb1 KA0.out.lt)
          have KB1 := Lib.hid (KB0.out.below hb1 KB0.out.lt)
          have HB1 : Hid (Below w.heap.size w U1) := HB0.out.trans (hb1.mono HB0.out.size)
          have KT1 : Hid (Blk U1 U0.heap.size 26 (forkC 0 0 0 0 0 0 0)) := by rw [← HU1.out]; exact Blk.new U0 _ _
          have hz1 : U0.heap.size < U1.heap.size := KT1.out.lt
          have hy1 : w.heap.size + 1 < U0.heap.size := KB0.out.lt
          rw [HU1.out] at hHeld ⊢
          refine wpAnyH_ready (rs := [1]) (by kernel_rfl) (by simp) (AllReadyH.cons rfl (fun K hK => ?zo25_0) AllReadyH.nil)
          case zo25_0 =>
            go_simp
            go_at_call 19
            refine (CA.out U1 HB1.out).mono ?_
            rintro e U2 ⟨gOFa, gOFb, rfl, ho2, hb2⟩
            have KA2 := Lib.hid (KA1.out.below hb2 KA1.out.lt)
            have KB2 := Lib.hid (KB1.out.below hb2 KB1.out.lt)
            have HB2 : Hid (Below w.heap.size w U2) := HB1.out.trans (hb2.mono HB1.out.size)
            have KT2 := Lib.hid (KT1.out.below hb2 KT1.out.lt)
            have OF2 := Lib.hid ho2
            clear ho2
            refine hK.out _ _ (⟨feed_cells KA2.out, feed_cells KB2.out⟩) (fun hHeld => ?_)
            clear hK K
            (try simp only [Act.put, List.setIfInBounds_toArray, List.set_cons_zero, List.set_cons_succ])
            refine wpAnyH_ready (rs := [3]) (by kernel_rfl) (by simp) (AllReadyH.cons rfl (fun K hK => ?zo26_0) AllReadyH.nil)
            case zo26_0 =>
              go_simp
              go_at_call 19
              refine (CB.out U2 HB2.out).mono ?_
              rintro e U3 ⟨gOGa, gOGb, rfl, ho3, hb3⟩
              have KA3 := Lib.hid (KA2.out.below hb3 KA2.out.lt)
              have KB3 := Lib.hid (KB2.out.below hb3 KB2.out.lt)
              have HB3 : Hid (Below w.heap.size w U3) := HB2.out.trans (hb3.mono HB2.out.size)
              have KT3 := Lib.hid (KT2.out.below hb3 KT2.out.lt)
              have OF3 := Lib.hid (OF2.out.below hb3)
              have OG3 := Lib.hid ho3
              clear ho3
              refine hK.out _ _ (⟨feed_cells KA3.out, feed_cells KB3.out⟩) (fun hHeld => ?_)
              clear hK K
              (try simp only [Act.put, List.setIfInBounds_toArray, List.set_cons_zero, List.set_cons_succ])
              refine wpAnyH_ready (rs := [4]) (by kernel_rfl) (by simp) (AllReadyH.cons rfl (fun K hK => ?zo27_0) AllReadyH.nil)
              case zo27_0 =>
                go_simp
                go_at_call 15
                refine (CS.out U3 gOFa gOFb gOGa gOGb OF3.out.at_ OG3.out.at_).mono ?_
                rintro e U4 ⟨rfl, hb4⟩
                have KA4 := Lib.hid (KA3.out.below hb4 KA3.out.lt)
                have KB4 := Lib.hid (KB3.out.below hb4 KB3.out.lt)
                have HB4 : Hid (Below w.heap.size w U4) := HB3.out.trans (hb4.mono HB3.out.size)
                have KT4 := Lib.hid (KT3.out.below hb4 KT3.out.lt)
                have OF4 := Lib.hid (OF3.out.below hb4)
                have OG4 := Lib.hid (OG3.out.below hb4)
                refine hK.out _ _ (⟨feed_cells KA4.out, feed_cells KB4.out⟩) (fun hHeld => ?_)
                clear hK K
                (try simp only [Act.put, List.setIfInBounds_toArray, List.set_cons_zero, List.set_cons_succ])
                refine wpAnyH_take (i := 5) (v := ?zv28) rfl (by kernel_rfl) (by kernel_rfl) (by kernel_rfl) (fun _ _ _ h => h) (Or.inl ⟨by kernel_rfl, ?zy28⟩) (by assumption) ?zr28
                case zy28 => (intro w hSw; (try dsimp only at hSw); go_simp; try with_reducible rfl)
                change wpAnyH _ _ _ _ _ _ _ (Act.put _ (some 22) _) _
                simp only [Act.put, List.setIfInBounds_toArray, List.set_cons_zero, List.set_cons_succ]
                refine wpAnyH_take (i := 6) (v := ?zv29) rfl (by kernel_rfl) (by kernel_rfl) (by kernel_rfl) (fun _ _ _ h => h) (Or.inl ⟨by kernel_rfl, ?zy29⟩) (by assumption) ?zr29
                case zy29 => (intro w hSw; (try dsimp only at hSw); go_simp; try with_reducible rfl)
                change wpAnyH _ _ _ _ _ _ _ (Act.put _ (some 28) _) _
                simp only [Act.put, List.setIfInBounds_toArray, List.set_cons_zero, List.set_cons_succ]
                refine wpAnyH_take (i := 7) (v := ?zv30) rfl (by kernel_rfl) (by kernel_rfl) (by kernel_rfl) (fun _ _ _ h => h) (Or.inl ⟨by kernel_rfl, ?zy30⟩) (by assumption) ?zr30
                case zy30 => (intro w hSw; (try dsimp only at hSw); go_simp; try with_reducible rfl)
                change wpAnyH _ _ _ _ _ _ _ (Act.put _ (some 29) _) _
                simp only [Act.put, List.setIfInBounds_toArray, List.set_cons_zero, List.set_cons_succ]
                refine wpAnyH_ready (rs := [9]) (by kernel_rfl) (by simp) (AllReadyH.cons rfl (fun K hK => ?zo31_0) AllReadyH.nil)
                case zo31_0 =>
                  go_simp
                  obtain ⟨n0, n1, n2, n3, n4, n5, n6⟩ := fork_cells KT4.out
                  have nf := blk_frozen KT4.out
                  obtain ⟨U5, HU5⟩ : ∃ U, Hid ((((((((U4.setCell ⟨U0.heap.size, 0, none⟩ (.int .i64 v0)).setCell ⟨U0.heap.size, 1, none⟩ (.int .i64 v1)).setCell ⟨U0.heap.size, 2, none⟩ (.int .i64 v2)).setCell ⟨U0.heap.size, 3, none⟩ (.int .i64 v3)).setCell ⟨U0.heap.size, 4, none⟩ (.int .i64 v4)).setCell ⟨U0.heap.size, 5, none⟩ (.int .i64 v5)).setCell ⟨U0.heap.size, 6, none⟩ (.int .i64 v6)) = U) := ⟨_, rfl⟩
                  have hq5 : Below (w.heap.size + 1 + 1) U4 U5 := by rw [← HU5.out]; exact below_seven (Below.refl _ _) (by omega) _ _ _ _ _ _ _
                  have KT5 : Hid (Blk U5 U0.heap.size 26 (forkC v0 v1 v2 v3 v4 v5 v6)) := by rw [← HU5.out]; exact blk_seven KT4.out _ _ _ _ _ _ _
                  have KA5 := Lib.hid (KA4.out.below hq5 (by omega))
                  have KB5 := Lib.hid (KB4.out.below hq5 (by omega))
                  have HB5 : Hid (Below w.heap.size w U5) := HB4.out.trans (hq5.mono (by omega))
                  go_simp
                  rw [HU5.out]
                  refine hK.out _ _ (⟨feed_cells KA5.out, feed_cells KB5.out⟩) (fun hHeld => ?_)
                  clear hK K
                  (try simp only [Act.put])
                  refine wpAnyH_take (i := 10) (v := ?zv32) rfl (by kernel_rfl) (by kernel_rfl) (by kernel_rfl) (fun _ _ _ h => h) (Or.inl ⟨by kernel_rfl, ?zy32⟩) (by assumption) ?zr32
                  case zy32 => (intro w hSw; (try dsimp only at hSw); go_simp; try with_reducible rfl)
                  change wpAnyH _ _ _ _ _ _ _ (Act.put _ (some 7) _) _
                  simp only [Act.put, List.setIfInBounds_toArray, List.set_cons_zero, List.set_cons_succ]
                  refine wpAnyH_done (by kernel_rfl) ?_ _
                  (try go_wp2_with fail)
                  go_meet
                  exact ⟨_, rfl, rfl, by omega, KT5, KA5, KB5, HB5⟩
      case rest =>
      obtain ⟨gf, rfl, rfl, hgf, KT3, KA3, KB3, HB3⟩ := hcut
      clear KA KB HB Z1 Z2 KA1 KB1 HB1 KA2 KB2 HB2
      have hgl : gf < wc.heap.size := KT3.out.lt
      obtain ⟨a0, a1, a2, a3, a4, a5⟩ := feed_cells KA3.out
      go_wp2_with fail
      refine (CA.out _ HB3.out).mono ?_
      rintro e w4 ⟨xa, xb, rfl, ho4, hb4⟩
      have OX4 := Lib.hid ho4
      have KA4 := Lib.hid (KA3.out.below hb4 KA3.out.lt)
      have KB4 := Lib.hid (KB3.out.below hb4 KB3.out.lt)
      have KT4 := Lib.hid (KT3.out.below hb4 KT3.out.lt)
      have HB4 : Hid (Below w.heap.size w w4) := HB3.out.trans (hb4.mono HB3.out.size)
      clear ho4 hb4 a0 a1 a2 a3 a4 a5
      obtain ⟨w5, HU5⟩ : ∃ U, Hid (w4.alloc (.cells (feedC p l d s (some ⟨xa, 0, none⟩) nb nb (some ⟨xb, 0, none⟩) nh nh) 34) = U) := ⟨_, rfl⟩
      have KX5 := Lib.hid (Blk.new w4 34 (feedC p l d s (some ⟨xa, 0, none⟩) nb nb (some ⟨xb, 0, none⟩) nh nh))
      have OX5 := Lib.hid (OX4.out.alloc (.cells (feedC p l d s (some ⟨xa, 0, none⟩) nb nb (some ⟨xb, 0, none⟩) nh nh) 34))
      have KA5 := Lib.hid (KA4.out.alloc (.cells (feedC p l d s (some ⟨xa, 0, none⟩) nb nb (some ⟨xb, 0, none⟩) nh nh) 34))
      have KB5 := Lib.hid (KB4.out.alloc (.cells (feedC p l d s (some ⟨xa, 0, none⟩) nb nb (some ⟨xb, 0, none⟩) nh nh) 34))
      have KT5 := Lib.hid (KT4.out.alloc (.cells (feedC p l d s (some ⟨xa, 0, none⟩) nb nb (some ⟨xb, 0, none⟩) nh nh) 34))
      have HB5 : Hid (Below w.heap.size w (w4.alloc (.cells (feedC p l d s (some ⟨xa, 0, none⟩) nb nb (some ⟨xb, 0, none⟩) nh nh) 34))) := HB4.out.alloc HB4.out.size _
      rw [HU5.out] at KX5 OX5 KA5 KB5 KT5 HB5
      have hz4 : w.heap.size + 1 < w4.heap.size := KB4.out.lt
      obtain ⟨b0, b1, b2, b3, b4, b5⟩ := feed_cells KB4.out
      go_wp2_with fail
      rw [HU5.out]
      refine (CB.out _ HB5.out).mono ?_
      rintro e w6 ⟨ya, yb, rfl, ho6, hb6⟩
      have OY6 := Lib.hid ho6
      have OX6 := Lib.hid (OX5.out.below hb6)
      have KX6 := Lib.hid (KX5.out.below hb6 KX5.out.lt)
      have KA6 := Lib.hid (KA5.out.below hb6 KA5.out.lt)
      have KB6 := Lib.hid (KB5.out.below hb6 KB5.out.lt)
      have KT6 := Lib.hid (KT5.out.below hb6 KT5.out.lt)
      have HB6 : Hid (Below w.heap.size w w6) := HB5.out.trans (hb6.mono HB5.out.size)
      clear ho6 hb6 b0 b1 b2 b3 b4 b5 hz4
      obtain ⟨w7, HU7⟩ : ∃ U, Hid (w6.alloc (.cells (feedC q m i t (some ⟨ya, 0, none⟩) nc nc (some ⟨yb, 0, none⟩) nk nk) 34) = U) := ⟨_, rfl⟩
      have KY7 := Lib.hid (Blk.new w6 34 (feedC q m i t (some ⟨ya, 0, none⟩) nc nc (some ⟨yb, 0, none⟩) nk nk))
      have OX7 := Lib.hid (OX6.out.alloc (.cells (feedC q m i t (some ⟨ya, 0, none⟩) nc nc (some ⟨yb, 0, none⟩) nk nk) 34))
      have OY7 := Lib.hid (OY6.out.alloc (.cells (feedC q m i t (some ⟨ya, 0, none⟩) nc nc (some ⟨yb, 0, none⟩) nk nk) 34))
      have KX7 := Lib.hid (KX6.out.alloc (.cells (feedC q m i t (some ⟨ya, 0, none⟩) nc nc (some ⟨yb, 0, none⟩) nk nk) 34))
      have KA7 := Lib.hid (KA6.out.alloc (.cells (feedC q m i t (some ⟨ya, 0, none⟩) nc nc (some ⟨yb, 0, none⟩) nk nk) 34))
      have KB7 := Lib.hid (KB6.out.alloc (.cells (feedC q m i t (some ⟨ya, 0, none⟩) nc nc (some ⟨yb, 0, none⟩) nk nk) 34))
      have KT7 := Lib.hid (KT6.out.alloc (.cells (feedC q m i t (some ⟨ya, 0, none⟩) nc nc (some ⟨yb, 0, none⟩) nk nk) 34))
      have HB7 : Hid (Below w.heap.size w (w6.alloc (.cells (feedC q m i t (some ⟨ya, 0, none⟩) nc nc (some ⟨yb, 0, none⟩) nk nk) 34))) := HB6.out.alloc HB6.out.size _
      rw [HU7.out] at KY7 OX7 OY7 KX7 KA7 KB7 KT7 HB7
      have hz6 : w4.heap.size < w6.heap.size := KX6.out.lt
      obtain ⟨x0, x1, x2, x3, x4, x5⟩ := feed_cells KX6.out
      go_wp2_with fail
      rw [HU7.out]
      refine (CI.out _ xa xb ya yb OX7.out.at_ OY7.out.at_).mono ?_
      rintro e w8 ⟨rfl, hb8⟩
      have OX8 := Lib.hid (OX7.out.below hb8)
      have OY8 := Lib.hid (OY7.out.below hb8)
      have KX8 := Lib.hid (KX7.out.below hb8 KX7.out.lt)
      have KY8 := Lib.hid (KY7.out.below hb8 KY7.out.lt)
      have KA8 := Lib.hid (KA7.out.below hb8 KA7.out.lt)
      have KB8 := Lib.hid (KB7.out.below hb8 KB7.out.lt)
      have KT8 := Lib.hid (KT7.out.below hb8 KT7.out.lt)
      have HB8 : Hid (Below w.heap.size w w8) := HB7.out.trans (hb8.mono HB7.out.size)
      clear hb8 x0 x1 x2 x3 x4 x5 hz6
      obtain ⟨w9, HU9⟩ : ∃ U, Hid (w8.alloc (.cells (forkC v0 v1 v2 v3 v4 v5 v6) 26) = U) := ⟨_, rfl⟩
      have OX9 := Lib.hid (OX8.out.alloc (.cells (forkC v0 v1 v2 v3 v4 v5 v6) 26))
      have OY9 := Lib.hid (OY8.out.alloc (.cells (forkC v0 v1 v2 v3 v4 v5 v6) 26))
      have KX9 := Lib.hid (KX8.out.alloc (.cells (forkC v0 v1 v2 v3 v4 v5 v6) 26))
      have KY9 := Lib.hid (KY8.out.alloc (.cells (forkC v0 v1 v2 v3 v4 v5 v6) 26))
      have KA9 := Lib.hid (KA8.out.alloc (.cells (forkC v0 v1 v2 v3 v4 v5 v6) 26))
      have KB9 := Lib.hid (KB8.out.alloc (.cells (forkC v0 v1 v2 v3 v4 v5 v6) 26))
      have HB9 : Hid (Below w.heap.size w (w8.alloc (.cells (forkC v0 v1 v2 v3 v4 v5 v6) 26))) := HB8.out.alloc HB8.out.size _
      rw [HU9.out] at OX9 OY9 KX9 KY9 KA9 KB9 HB9
      have hz8 : gf < w8.heap.size := KT8.out.lt
      obtain ⟨t0, t1, t2, t3, t4, t5, t6⟩ := fork_cells KT8.out
      go_wp2_with fail
      rw [HU9.out]
      refine (eqFork_same v0 v1 v2 v3 v4 v5 v6 _).mono ?_
      rintro e w10 ⟨rfl, hb10⟩
      have OX10 := Lib.hid (OX9.out.below hb10)
      have OY10 := Lib.hid (OY9.out.below hb10)
      have KX10 := Lib.hid (KX9.out.below hb10 KX9.out.lt)
      have KY10 := Lib.hid (KY9.out.below hb10 KY9.out.lt)
      have KA10 := Lib.hid (KA9.out.below hb10 KA9.out.lt)
      have KB10 := Lib.hid (KB9.out.below hb10 KB9.out.lt)
      have HB10 : Hid (Below w.heap.size w w10) := HB9.out.trans (hb10.mono HB9.out.size)
      clear hb10 t0 t1 t2 t3 t4 t5 t6 hz8
      obtain ⟨x0, x1, x2, x3, x4, x5⟩ := feed_cells KX10.out
      obtain ⟨a0, a1, a2, a3, a4, a5⟩ := feed_cells KA10.out
      go_wp2_with fail
      refine wp_region_held_drew (S := (fun w' => (w'.cell? ⟨w4.heap.size, 0, none⟩ = some (.int .i64 p) ∧ w'.cell? ⟨w4.heap.size, 1, none⟩ = some (.int .i64 l) ∧ w'.cell? ⟨w4.heap.size, 2, none⟩ = some (.int .i64 d) ∧ w'.cell? ⟨w4.heap.size, 3, none⟩ = some (.int .i64 s) ∧ w'.cell? ⟨w4.heap.size, 4, none⟩ = some (.slice (some ⟨xa, 0, none⟩) nb nb) ∧ w'.cell? ⟨w4.heap.size, 5, none⟩ = some (.slice (some ⟨xb, 0, none⟩) nh nh)) ∧ (w'.cell? ⟨w.heap.size, 0, none⟩ = some (.int .i64 p) ∧ w'.cell? ⟨w.heap.size, 1, none⟩ = some (.int .i64 l) ∧ w'.cell? ⟨w.heap.size, 2, none⟩ = some (.int .i64 d) ∧ w'.cell? ⟨w.heap.size, 3, none⟩ = some (.int .i64 s) ∧ w'.cell? ⟨w.heap.size, 4, none⟩ = some (.slice A1 nb c1) ∧ w'.cell? ⟨w.heap.size, 5, none⟩ = some (.slice A2 nh c2)))) (by kernel_rfl) (⟨⟨x0, x1, x2, x3, x4, x5⟩, ⟨a0, a1, a2, a3, a4, a5⟩⟩) (fun hHeld => ?_)
      refine wpAnyH_take (i := 0) (v := ?zv1001) rfl (by kernel_rfl) (by kernel_rfl) (by kernel_rfl) (fun _ _ _ h => h) (Or.inl ⟨by kernel_rfl, ?zy1001⟩) (by assumption) ?zr1001
      case zy1001 => (intro w hSw; (try dsimp only at hSw); go_simp; try with_reducible rfl)
      change wpAnyH _ _ _ _ _ _ _ (Act.put _ (some 49) _) _
      simp only [Act.put, List.setIfInBounds_toArray, List.set_cons_zero, List.set_cons_succ]
      refine wpAnyH_take (i := 1) (v := ?zv1002) rfl (by kernel_rfl) (by kernel_rfl) (by kernel_rfl) (fun _ _ _ h => h) (Or.inl ⟨by kernel_rfl, ?zy1002⟩) (by assumption) ?zr1002
      case zy1002 => (intro w hSw; (try dsimp only at hSw); go_simp; try with_reducible rfl)
      change wpAnyH _ _ _ _ _ _ _ (Act.put _ (some 50) _) _
      simp only [Act.put, List.setIfInBounds_toArray, List.set_cons_zero, List.set_cons_succ]
      refine wpAnyH_ready (rs := [2]) (by kernel_rfl) (by simp) (AllReadyH.cons rfl (fun K hK => ?_) AllReadyH.nil)
      go_simp
      go_at_call 19
      refine (CA.out _ (below_drew HB10.out)).mono ?_
      rintro e w11 ⟨za, zb, rfl, ho11, hb11d⟩
      have hb11 : Below w10.heap.size w10 w11 := below_drew_l hb11d
      have OZ11 := Lib.hid ho11
      have OX11 := Lib.hid (OX10.out.below hb11)
      have KX11 := Lib.hid (KX10.out.below hb11 KX10.out.lt)
      have KA11 := Lib.hid (KA10.out.below hb11 KA10.out.lt)
      have HB11 := Lib.hid hb11
      clear hb11d hb11 ho11
      refine hK.out _ _ (⟨feed_cells KX11.out, feed_cells KA11.out⟩) (fun hHeld => ?_)
      clear hK K
      (try simp only [Act.put, List.setIfInBounds_toArray, List.set_cons_zero, List.set_cons_succ])
      refine wpAnyH_ready (rs := [3]) (by kernel_rfl) (by simp) (AllReadyH.cons rfl (fun K hK => ?_) AllReadyH.nil)
      go_simp
      go_at_call 21
      refine (eqFeed_n p l d s (some ⟨xa, 0, none⟩) nb (some ⟨xb, 0, none⟩) nh (some ⟨za, 0, none⟩) nb (some ⟨zb, 0, none⟩) nh bs hs w11 OX11.out.at_ OZ11.out.at_ HNB.out HNH.out).mono ?_
      rintro e w12 ⟨rfl, hb12⟩
      have HB12 : Hid (Below w10.heap.size w10 w12) := HB11.out.trans (hb12.mono HB11.out.size)
      have KX12 := Lib.hid (KX11.out.below hb12 KX11.out.lt)
      have KA12 := Lib.hid (KA11.out.below hb12 KA11.out.lt)
      have KY12 := Lib.hid (KY10.out.below HB12.out KY10.out.lt)
      have KB12 := Lib.hid (KB10.out.below HB12.out KB10.out.lt)
      clear hb12
      refine hK.out _ _ (⟨feed_cells KX12.out, feed_cells KA12.out⟩) (fun hHeld => ?_)
      clear hK K
      (try simp only [Act.put, List.setIfInBounds_toArray, List.set_cons_zero, List.set_cons_succ])
      refine wpAnyH_take (i := 4) (v := ?zv1003) rfl (by kernel_rfl) (by kernel_rfl) (by kernel_rfl) (fun _ _ _ h => h) (Or.inl ⟨by kernel_rfl, ?zy1003⟩) (by assumption) ?zr1003
      case zy1003 => (intro w hSw; (try dsimp only at hSw); go_simp; try with_reducible rfl)
      change wpAnyH _ _ _ _ _ _ _ (Act.put _ (some 53) _) _
      simp only [Act.put, List.setIfInBounds_toArray, List.set_cons_zero, List.set_cons_succ]
      refine wpAnyH_done (by kernel_rfl) ?_ _
      have HB12w : Hid (Below w.heap.size w w12) := HB10.out.trans (HB12.out.mono HB10.out.size)
      clear x0 x1 x2 x3 x4 x5 a0 a1 a2 a3 a4 a5
      obtain ⟨y0, y1, y2, y3, y4, y5⟩ := feed_cells KY12.out
      obtain ⟨b0, b1, b2, b3, b4, b5⟩ := feed_cells KB12.out
      have OY12 := Lib.hid (OY10.out.below HB12.out)
      go_wp2_with fail
      refine wp_region_held_drew (S := (fun w' => (w'.cell? ⟨w6.heap.size, 0, none⟩ = some (.int .i64 q) ∧ w'.cell? ⟨w6.heap.size, 1, none⟩ = some (.int .i64 m) ∧ w'.cell? ⟨w6.heap.size, 2, none⟩ = some (.int .i64 i) ∧ w'.cell? ⟨w6.heap.size, 3, none⟩ = some (.int .i64 t) ∧ w'.cell? ⟨w6.heap.size, 4, none⟩ = some (.slice (some ⟨ya, 0, none⟩) nc nc) ∧ w'.cell? ⟨w6.heap.size, 5, none⟩ = some (.slice (some ⟨yb, 0, none⟩) nk nk)) ∧ (w'.cell? ⟨w.heap.size + 1, 0, none⟩ = some (.int .i64 q) ∧ w'.cell? ⟨w.heap.size + 1, 1, none⟩ = some (.int .i64 m) ∧ w'.cell? ⟨w.heap.size + 1, 2, none⟩ = some (.int .i64 i) ∧ w'.cell? ⟨w.heap.size + 1, 3, none⟩ = some (.int .i64 t) ∧ w'.cell? ⟨w.heap.size + 1, 4, none⟩ = some (.slice A3 nc c3) ∧ w'.cell? ⟨w.heap.size + 1, 5, none⟩ = some (.slice A4 nk c4)))) (by kernel_rfl) (⟨⟨y0, y1, y2, y3, y4, y5⟩, ⟨b0, b1, b2, b3, b4, b5⟩⟩) (fun hHeld => ?_)
      refine wpAnyH_take (i := 0) (v := ?zv1004) rfl (by kernel_rfl) (by kernel_rfl) (by kernel_rfl) (fun _ _ _ h => h) (Or.inl ⟨by kernel_rfl, ?zy1004⟩) (by assumption) ?zr1004
      case zy1004 => (intro w hSw; (try dsimp only at hSw); go_simp; try with_reducible rfl)
      change wpAnyH _ _ _ _ _ _ _ (Act.put _ (some 54) _) _
      simp only [Act.put, List.setIfInBounds_toArray, List.set_cons_zero, List.set_cons_succ]
      refine wpAnyH_take (i := 1) (v := ?zv1005) rfl (by kernel_rfl) (by kernel_rfl) (by kernel_rfl) (fun _ _ _ h => h) (Or.inl ⟨by kernel_rfl, ?zy1005⟩) (by assumption) ?zr1005
      case zy1005 => (intro w hSw; (try dsimp only at hSw); go_simp; try with_reducible rfl)
      change wpAnyH _ _ _ _ _ _ _ (Act.put _ (some 55) _) _
      simp only [Act.put, List.setIfInBounds_toArray, List.set_cons_zero, List.set_cons_succ]
      refine wpAnyH_ready (rs := [2]) (by kernel_rfl) (by simp) (AllReadyH.cons rfl (fun K hK => ?_) AllReadyH.nil)
      go_simp
      go_at_call 19
      refine (CB.out _ (below_drew HB12w.out)).mono ?_
      rintro e w13 ⟨za, zb, rfl, ho13, hb13d⟩
      have hb13 : Below w12.heap.size w12 w13 := below_drew_l hb13d
      have OZ13 := Lib.hid ho13
      have OY13 := Lib.hid (OY12.out.below hb13)
      have KY13 := Lib.hid (KY12.out.below hb13 KY12.out.lt)
      have KB13 := Lib.hid (KB12.out.below hb13 KB12.out.lt)
      have HB13 := Lib.hid hb13
      clear hb13d hb13 ho13
      refine hK.out _ _ (⟨feed_cells KY13.out, feed_cells KB13.out⟩) (fun hHeld => ?_)
      clear hK K
      (try simp only [Act.put, List.setIfInBounds_toArray, List.set_cons_zero, List.set_cons_succ])
      refine wpAnyH_ready (rs := [3]) (by kernel_rfl) (by simp) (AllReadyH.cons rfl (fun K hK => ?_) AllReadyH.nil)
      go_simp
      go_at_call 21
      refine (eqFeed_n q m i t (some ⟨ya, 0, none⟩) nc (some ⟨yb, 0, none⟩) nk (some ⟨za, 0, none⟩) nc (some ⟨zb, 0, none⟩) nk cs ks w13 OY13.out.at_ OZ13.out.at_ HNC.out HNK.out).mono ?_
      rintro e w14 ⟨rfl, hb14⟩
      have HB14 : Hid (Below w12.heap.size w12 w14) := HB13.out.trans (hb14.mono HB13.out.size)
      have KY14 := Lib.hid (KY13.out.below hb14 KY13.out.lt)
      have KB14 := Lib.hid (KB13.out.below hb14 KB13.out.lt)
      clear hb14
      refine hK.out _ _ (⟨feed_cells KY14.out, feed_cells KB14.out⟩) (fun hHeld => ?_)
      clear hK K
      (try simp only [Act.put, List.setIfInBounds_toArray, List.set_cons_zero, List.set_cons_succ])
      refine wpAnyH_take (i := 4) (v := ?zv1006) rfl (by kernel_rfl) (by kernel_rfl) (by kernel_rfl) (fun _ _ _ h => h) (Or.inl ⟨by kernel_rfl, ?zy1006⟩) (by assumption) ?zr1006
      case zy1006 => (intro w hSw; (try dsimp only at hSw); go_simp; try with_reducible rfl)
      change wpAnyH _ _ _ _ _ _ _ (Act.put _ (some 58) _) _
      simp only [Act.put, List.setIfInBounds_toArray, List.set_cons_zero, List.set_cons_succ]
      refine wpAnyH_done (by kernel_rfl) ?_ _
      go_wp2
      go_ret
      exact ⟨rfl, HB12w.out.trans (HB14.out.mono HB12w.out.size)⟩
    · clear hu2
      go_wp2
      go_ret
      exact ⟨rfl, HB2.out⟩
  · clear hr2
    go_wp2
    go_ret
    exact ⟨rfl, HB1.out⟩

end Go.Proofs.Ytpcjlilfcpfmcaa
