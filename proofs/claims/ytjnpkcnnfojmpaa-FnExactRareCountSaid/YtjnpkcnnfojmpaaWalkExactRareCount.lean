/- The walk of FnExactRareCount: it returns true and changes nothing that was there. Condition: the arguments' cells lie in memory. -/
import Derived.Test.YtjnpkcnnfojmpaaExactPeers
import Derived.Test.YtjnpkcnnfojmpaaSRare
namespace Go.Proofs.Ytjnpkcnnfojmpaa
open Go.RowKit
set_option linter.unusedVariables false

set_option maxHeartbeats 8000000 in
set_option maxRecDepth 100000 in
theorem walkExactRareCount (A : Option Addr) (cap : Nat) (hs : List PH) (b : Int) (w : World) (hP : PAt w w.heap.size A hs) :
    Calls Try.prog 3 #[.slice A hs.length cap, .int .i64 b] w fun e w' => e = .returned (.bool true) ∧ Below w.heap.size w w' := by
  have HP := Lib.hid hP
  have C1 := Lib.hid (szPeers_any A cap hs w _ hP)
  obtain ⟨n, HN⟩ : ∃ n, Hid (hs.length = n) := ⟨_, rfl⟩
  have TP : Hid (FewB (pz hs) → ∀ W, Below w.heap.size w W → Calls Try.prog 9 #[.slice A n cap] W (CopiedP W hs n)) := fun hF W hW => by
    have h := toPeers_any A cap hs W (HP.out.belowS hW) hF
    rw [HN.out] at h; exact h
  have EQ : Hid (∀ (W : World) (b0 t0 b1 t1 : Nat) (ys zs : List PH), MadeP W b0 t0 ys → MadeP W b1 t1 zs → ys.length = n → zs.length = n → pz zs = pz ys → Calls Try.prog 11 #[.slice (some ⟨b0, 0, none⟩) n n, .slice (some ⟨b1, 0, none⟩) n n] W fun e w' => e = .returned (.bool true) ∧ ∃ q, w' = W.drewN q) := fun W b0 t0 b1 t1 ys zs h1 h2 h3 h4 h5 => by
    have h := eqPeers_any (some ⟨b0, 0, none⟩) n ys (some ⟨b1, 0, none⟩) n zs W h1.pat h2.pat h5
    rw [h3, h4] at h; exact h
  have SP : Hid (∀ (W : World) (b0 t0 : Nat) (ys : List PH), MadeP W b0 t0 ys → ys.length = n → pz ys = pz hs → Calls Try.prog 8 #[.slice (some ⟨b0, 0, none⟩) n n, .int .i64 b] W fun e w' => e = .returned (.int .i64 (countZ (pz hs) b)) ∧ w' = W) := fun W b0 t0 ys h1 h3 h5 => by
    have h := srareCount_any (some ⟨b0, 0, none⟩) n ys b W _ h1.pat
    rw [h3, h5] at h; exact h
  have IM : Hid (∀ (W : World) (b0 t0 : Nat) (ys : List PH), MadeP W b0 t0 ys → ys.length = n → pz ys = pz hs → Calls Try.prog 10 #[.slice (some ⟨b0, 0, none⟩) n n, .int .i64 b] W fun e w' => e = .returned (.int .i64 (countZ (pz hs) b)) ∧ w' = W) := fun W b0 t0 ys h1 h3 h5 => by
    have h := count_any (some ⟨b0, 0, none⟩) n ys b W _ h1.pat
    rw [h3, h5] at h; exact h
  obtain ⟨Z, HZ⟩ : ∃ Z, Hid (countZ (pz hs) b = Z) := ⟨_, rfl⟩
  rw [HZ.out] at SP IM
  rw [HN.out] at C1 ⊢
  clear hP
  go_enter Try.func3, Try.ntmps3
  go_wp2_with fail
  refine C1.out.mono ?_
  rintro e w1 ⟨r, rfl, hr0, hfew, rfl⟩
  by_cases hr : 0 ≤ r
  · have TP1 := Lib.hid (TP.out (hfew hr))
    have hrn : ¬ r < 0 := by omega
    clear hfew C1 TP
    go_wp2_with fail
    refine (TP1.out _ (Below.refl _ _)).mono ?_
    rintro e w2 ⟨y2, rfl, hl2, hz2, hm2, hb2⟩
    have HB2 := Lib.hid hb2
    have C2 := Lib.hid (SP.out w2 _ _ y2 hm2 hl2 hz2)
    clear hb2 hm2 hl2 hz2 SP
    go_wp2_with fail
    refine C2.out.mono ?_
    rintro e w3 ⟨rfl, rfl⟩
    clear C2
    go_wp2_with fail
    refine (TP1.out _ HB2.out).mono ?_
    rintro e w4 ⟨y4, rfl, hl4, hz4, hm4, hb4⟩
    have HB4 := Lib.hid (HB2.out.trans (hb4.mono HB2.out.size))
    have HM4 := Lib.hid hm4
    have C3 := Lib.hid (IM.out w4 _ _ y4 hm4 hl4 hz4)
    clear hb4 hm4 IM
    go_wp2_with fail
    refine C3.out.mono ?_
    rintro e w5 ⟨rfl, rfl⟩
    clear C3
    have hne : (Z != Z) = false := by simp
    go_wp2_with fail
    refine (TP1.out _ HB4.out).mono ?_
    rintro e w6 ⟨y6, rfl, hl6, hz6, hm6, hb6⟩
    have HB6 := Lib.hid (HB4.out.trans (hb6.mono HB4.out.size))
    have C4 := Lib.hid (EQ.out w6 _ _ _ _ y4 y6 (HM4.out.below hb6) hm6 hl4 hl6 (hz6.trans hz4.symm))
    clear hb6 hm6 EQ TP1 hl4 hl6 hz4 hz6
    go_wp2_with fail
    refine C4.out.mono ?_
    rintro e w7 ⟨rfl, q, rfl⟩
    go_wp2
    go_ret
    exact ⟨rfl, below_drewN HB6.out q⟩
  · have hrn : r < 0 := by omega
    clear hfew
    go_wp2
    go_ret
    exact ⟨rfl, Below.refl _ _⟩

end Go.Proofs.Ytjnpkcnnfojmpaa
