/- The walk of FnExactRarePick: it returns true and changes nothing that was there. Condition: the arguments' cells lie in memory. -/
import Derived.Test.YtjnpkcnnfojmpaaExactPeers
import Derived.Test.YtjnpkcnnfojmpaaSRarePick
namespace Go.Proofs.Ytjnpkcnnfojmpaa
open Go.RowKit
set_option linter.unusedVariables false

set_option maxHeartbeats 8000000 in
set_option maxRecDepth 100000 in
theorem walkExactRarePick (A : Option Addr) (cap : Nat) (hs : List PH) (A1 : Option Addr) (cap1 : Nat) (mine : List Bool) (p : Int) (w : World) (hP : PAt w w.heap.size A hs) (hJ : BoolsAt w w.heap.size A1 mine) (hm : mine.length ≤ maxLen) :
    Calls Try.prog 5 #[.slice A hs.length cap, .slice A1 mine.length cap1, .int .i64 p] w fun e w' => e = .returned (.bool true) ∧ Below w.heap.size w w' := by
  unfold maxLen at hm
  have HP := Lib.hid hP
  have HJ := Lib.hid hJ
  have C1 := Lib.hid (szPeers_any A cap hs w _ hP)
  obtain ⟨n, HN⟩ : ∃ n, Hid (hs.length = n) := ⟨_, rfl⟩
  obtain ⟨m, HMN⟩ : ∃ n, Hid (mine.length = n) := ⟨_, rfl⟩
  have TP : Hid (FewB (pz hs) → ∀ W, Below w.heap.size w W → Calls Try.prog 9 #[.slice A n cap] W (CopiedP W hs n)) := fun hF W hW => by
    have h := toPeers_any A cap hs W (HP.out.belowS hW) hF
    rw [HN.out] at h; exact h
  have EQ : Hid (∀ (W : World) (b0 t0 b1 t1 : Nat) (ys zs : List PH), MadeP W b0 t0 ys → MadeP W b1 t1 zs → ys.length = n → zs.length = n → pz zs = pz ys → Calls Try.prog 11 #[.slice (some ⟨b0, 0, none⟩) n n, .slice (some ⟨b1, 0, none⟩) n n] W fun e w' => e = .returned (.bool true) ∧ ∃ q, w' = W.drewN q) := fun W b0 t0 b1 t1 ys zs h1 h2 h3 h4 h5 => by
    have h := eqPeers_any (some ⟨b0, 0, none⟩) n ys (some ⟨b1, 0, none⟩) n zs W h1.pat h2.pat h5
    rw [h3, h4] at h; exact h
  have TB : Hid (m ≤ 1048576 → ∀ W, Below w.heap.size w W → Calls Try.prog 13 #[.slice A1 m cap1] W fun e w' => e = .returned (.slice (some ⟨W.heap.size, 0, none⟩) m m) ∧ OwnBools w' W.heap.size (some ⟨W.heap.size, 0, none⟩) m mine ∧ Below W.heap.size W w') := fun hF W hW => by
    have h := toBools_any A1 cap1 mine W (HJ.out.belowS hW) (by rw [HMN.out]; exact hF)
    unfold CopiedB at h
    rw [HMN.out] at h; exact h
  have EB : Hid (m ≤ 1048576 → ∀ (W : World) (b0 b1 g0 g1 : Nat), OwnBools W b0 (some ⟨g0, 0, none⟩) m mine → OwnBools W b1 (some ⟨g1, 0, none⟩) m mine → Calls Try.prog 16 #[.slice (some ⟨g0, 0, none⟩) m m, .slice (some ⟨g1, 0, none⟩) m m] W fun e w' => e = .returned (.bool true) ∧ ∃ q, w' = W.drewN q) := fun hF W b0 b1 g0 g1 h1 h2 => by
    have h := eqb_any (some ⟨g0, 0, none⟩) m mine (some ⟨g1, 0, none⟩) m mine W h1.ints h2.ints (by rw [HMN.out]; unfold maxLen; omega) (by rw [HMN.out]; unfold maxLen; omega)
    rw [HMN.out, decb_same] at h; exact h
  have SP : Hid (∀ (W : World) (b0 t0 b1 g1 : Nat) (ys : List PH), MadeP W b0 t0 ys → OwnBools W b1 (some ⟨g1, 0, none⟩) m mine → ys.length = n → pz ys = pz hs → Calls Try.prog 21 #[.slice (some ⟨b0, 0, none⟩) n n, .slice (some ⟨g1, 0, none⟩) m m, .int .i64 p] W fun e w' => e = .returned (.int .i64 (pickZ (pz hs) mine p)) ∧ Below W.heap.size W w') := fun W b0 t0 b1 g1 ys h1 h2 h3 h5 => by
    have h := spick_any (some ⟨b0, 0, none⟩) n ys (some ⟨g1, 0, none⟩) m mine p W h1.pat h2.ints
    rw [h3, h5, HMN.out] at h; exact h
  have IM : Hid (∀ (W : World) (b0 t0 b1 g1 : Nat) (ys : List PH), MadeP W b0 t0 ys → OwnBools W b1 (some ⟨g1, 0, none⟩) m mine → ys.length = n → pz ys = pz hs → Calls Try.prog 22 #[.slice (some ⟨b0, 0, none⟩) n n, .slice (some ⟨g1, 0, none⟩) m m, .int .i64 p] W fun e w' => e = .returned (.int .i64 (pickZ (pz hs) mine p)) ∧ Below W.heap.size W w') := fun W b0 t0 b1 g1 ys h1 h2 h3 h5 => by
    have h := pick_blk_any (some ⟨b0, 0, none⟩) n ys (some ⟨g1, 0, none⟩) m mine p W h1.pat h2.ints
    rw [h3, h5, HMN.out] at h; exact h
  obtain ⟨Z, HZ⟩ : ∃ Z, Hid (pickZ (pz hs) mine p = Z) := ⟨_, rfl⟩
  rw [HZ.out] at SP IM
  rw [HN.out] at C1 ⊢
  rw [HMN.out] at hm ⊢
  clear hP hJ
  by_cases hm1 : m ≤ 1048576
  · have hmi : ¬ (1048576 : Int) < (m : Int) := by omega
    have TB1 := Lib.hid (TB.out hm1)
    have EB1 := Lib.hid (EB.out hm1)
    clear TB EB
    go_enter Try.func5, Try.ntmps5
    go_wp2_with fail
    refine C1.out.mono ?_
    rintro e w1 ⟨r, rfl, hr0, hfew, rfl⟩
    by_cases hr : 0 ≤ r
    · have HFW := Lib.hid (hfew hr)
      have TP1 := Lib.hid (TP.out (hfew hr))
      have hrn : ¬ r < 0 := by omega
      clear hfew C1 TP
      go_wp2_with fail
      refine (TP1.out _ (Below.refl w1.heap.size w1)).mono ?_
      rintro e w2 ⟨y2, rfl, hl2, hz2, hm2, hb2⟩
      have HB2 := Lib.hid ((Below.refl w1.heap.size w1).trans (hb2.mono (Below.refl w1.heap.size w1).size))
      go_wp2_with fail
      refine (TB1.out _ HB2.out).mono ?_
      rintro e w3 ⟨rfl, ho3, hb3⟩
      have HB3 := Lib.hid (HB2.out.trans (hb3.mono HB2.out.size))
      have HM3 := Lib.hid (hm2.below hb3)
      have HO3 := Lib.hid ho3
      have HL3 := Lib.hid hl2
      have HZ3 := Lib.hid hz2
      clear ho3 hb2 hb3 hm2 hl2 hz2
      go_wp2_with fail
      refine (SP.out w3 _ _ _ _ y2 HM3.out HO3.out HL3.out HZ3.out).mono ?_
      rintro e w4 ⟨rfl, hb4⟩
      have HB4 := Lib.hid (HB3.out.trans (hb4.mono HB3.out.size))
      clear hb4 SP HM3 HO3 HL3 HZ3
      go_wp2_with fail
      refine (TP1.out _ HB4.out).mono ?_
      rintro e w5 ⟨y5, rfl, hl5, hz5, hm5, hb5⟩
      have HB5 := Lib.hid (HB4.out.trans (hb5.mono HB4.out.size))
      go_wp2_with fail
      refine (TB1.out _ HB5.out).mono ?_
      rintro e w6 ⟨rfl, ho6, hb6⟩
      have HB6 := Lib.hid (HB5.out.trans (hb6.mono HB5.out.size))
      have HM6 := Lib.hid (hm5.below hb6)
      have HO6 := Lib.hid ho6
      have HL6 := Lib.hid hl5
      have HZ6 := Lib.hid hz5
      clear ho6 hb5 hb6 hm5 hl5 hz5
      go_wp2_with fail
      refine (IM.out w6 _ _ _ _ y5 HM6.out HO6.out HL6.out HZ6.out).mono ?_
      rintro e w7 ⟨rfl, hb7⟩
      have HB7 := Lib.hid (HB6.out.trans (hb7.mono HB6.out.size))
      have HM7 := Lib.hid (HM6.out.below hb7)
      have HO7 := Lib.hid (HO6.out.below hb7)
      clear hb7 IM HM6 HO6
      have hne : (Z != Z) = false := by simp
      go_wp2_with fail
      refine (TP1.out _ HB7.out).mono ?_
      rintro e w8 ⟨y8, rfl, hl8, hz8, hm8, hb8⟩
      have HB8 := Lib.hid (HB7.out.trans (hb8.mono HB7.out.size))
      have HO8 := Lib.hid (HO7.out.below hb8)
      have C4 := Lib.hid (EQ.out w8 _ _ _ _ y5 y8 (HM7.out.below hb8) hm8 HL6.out hl8 (hz8.trans HZ6.out.symm))
      clear hb8 hm8 EQ TP1 hl8 hz8
      go_wp2_with fail
      refine C4.out.mono ?_
      rintro e w9 ⟨rfl, q, rfl⟩
      clear C4
      go_wp2_with fail
      refine (TB1.out _ (below_drewN HB8.out q)).mono ?_
      rintro e w10 ⟨rfl, ho10, hb10⟩
      have HB10 := Lib.hid ((below_drewN HB8.out q).trans (hb10.mono HB8.out.size))
      have C5 := Lib.hid (EB1.out w10 _ _ _ _ ((HO8.out.drewN q).below hb10) ho10)
      clear ho10 hb10 EB1 TB1
      go_wp2_with fail
      refine C5.out.mono ?_
      rintro e w11 ⟨rfl, q2, rfl⟩
      go_wp2
      go_ret
      exact ⟨rfl, below_drewN HB10.out q2⟩
    · have hrn : r < 0 := by omega
      clear hfew
      go_wp2
      go_ret
      exact ⟨rfl, Below.refl _ _⟩
  · have hmi : (1048576 : Int) < (m : Int) := by omega
    go_enter Try.func5, Try.ntmps5
    go_wp2
    go_ret
    exact ⟨rfl, Below.refl _ _⟩

end Go.Proofs.Ytjnpkcnnfojmpaa
