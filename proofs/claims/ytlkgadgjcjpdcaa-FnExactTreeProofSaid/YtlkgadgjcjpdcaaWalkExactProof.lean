/- The walk of FnExactTreeProof: it returns true and changes nothing that was there. Condition: the argument's cells lie in memory. -/
import Derived.Test.YtlkgadgjcjpdcaaSpecProof
import Derived.Test.YtlkgadgjcjpdcaaExactInts
namespace Go.Proofs.Ytlkgadgjcjpdcaa
open Go.RowKit
set_option linter.unusedVariables false

theorem dec_self (l : List Int) : decide (l = l) = true := by simp
theorem own_ne {w w' : World} {base : Nat} {A : Option Addr} {cap : Nat} {zs : List Int} (h : OwnInts w base A cap zs) {b : Nat} (hg : w.grownBy w' (some b)) (hne : ∀ g, A = some ⟨g, 0, none⟩ → g ≠ b) : OwnInts w' base A cap zs := by
  refine World.ownsRow.kept h hg ?_
  rcases h.2 with ⟨hv, _⟩ | ⟨g, c, cur, hv, hb, _⟩
  · left; rw [hv]; rfl
  · right
    have hA : A = some ⟨g, 0, none⟩ := by injection hv
    rw [hv]
    intro e
    exact hne g hA (by simpa [Value.ownBlock] using e)
theorem own_lt {w : World} {base : Nat} {A : Option Addr} {cap : Nat} {zs : List Int} (h : OwnInts w base A cap zs) : ∀ g, A = some ⟨g, 0, none⟩ → base ≤ g ∧ g < w.heap.size := by
  intro g hA
  subst hA
  exact World.ownsRow.lt h g rfl

set_option maxHeartbeats 4000000 in
set_option maxRecDepth 100000 in
theorem walkExactProof (A : Option Addr) (cap : Nat) (zs : List Int) (m : Int) (w : World) (hI : IntsAt w w.heap.size A zs) (hm : zs.length ≤ maxLen) :
    Calls Try.prog 4 #[.slice A zs.length cap, .int .i64 m] w fun e w' => e = .returned (.bool true) ∧ Below w.heap.size w w' := by
  unfold maxLen at hm
  have HI := Lib.hid hI
  clear hI
  by_cases hlen : zs.length ≤ 1048576
  · have HL := Lib.hid hlen
    have HLM : Hid (zs.length ≤ maxLen) := by show _ ≤ _; unfold maxLen; omega
    obtain ⟨R, HR⟩ : ∃ R, Hid (proofOr zs m = R) := ⟨_, rfl⟩
    have hRs : R.length ≤ 1048576 := by rw [← HR.out]; exact Nat.le_trans (proofOr_short zs m) (by omega)
    have HRS := Lib.hid hRs
    clear hRs
    go_enter Try.func4, Try.ntmps4
    go_wp2_with fail
    refine (toInts_any A cap zs _ HI.out HL.out).mono ?_
    rintro e w1 ⟨rfl, hown1, hb1⟩
    have HO1 := Lib.hid hown1
    have HB1 := Lib.hid hb1
    clear hown1 hb1
    go_wp2_with fail
    refine (sproof_any zs m w.heap.size 0 zs.length _ HO1.out.ints (Nat.le_refl _) HLM.out).mono ?_
    rintro e w2 ⟨A2, c2, rfl, hown2, hb2⟩
    rw [HR.out] at hown2 ⊢
    have HO2 := Lib.hid hown2
    have HB2 : Hid (Below w.heap.size w w2) := HB1.out.trans (hb2.mono HB1.out.size)
    clear hown2 hb2
    go_wp2_with fail
    refine (toInts_any A cap zs _ (HI.out.belowS HB2.out) HL.out).mono ?_
    rintro e w3 ⟨rfl, hown3, hb3⟩
    have HO3 := Lib.hid hown3
    have HO23 := Lib.hid (HO2.out.below hb3)
    have HB3 : Hid (Below w.heap.size w w3) := HB2.out.trans (hb3.mono HB2.out.size)
    have hz23 : w2.heap.size ≤ w3.heap.size := hb3.size
    clear hown3 hb3
    go_wp2_with fail
    refine (proof_any zs m w2.heap.size 0 zs.length _ HO3.out.ints (Nat.le_refl _) HLM.out).mono ?_
    rintro e w4 ⟨A4, c4, rfl, hown4, hb4⟩
    rw [HR.out] at hown4 ⊢
    have HO4 := Lib.hid hown4
    have HO24 := Lib.hid (HO23.out.below hb4)
    have HO34 := Lib.hid (HO3.out.below hb4)
    have HB4 : Hid (Below w.heap.size w w4) := HB3.out.trans (hb4.mono HB3.out.size)
    have hz34 : w3.heap.size ≤ w4.heap.size := hb4.size
    clear hown4 hb4
    have HRM : Hid (R.length ≤ maxLen) := by show _ ≤ _; have := HRS.out; unfold maxLen; omega
    go_wp2_with fail
    refine (eqi_any A4 c4 R A2 c2 R _ HO4.out.ints HO24.out.ints HRM.out HRM.out).mono ?_
    rintro e w' ⟨rfl, q1, rfl⟩
    rw [dec_self]
    go_wp2_with fail
    refine (toInts_any A cap zs _ (HI.out.belowS (below_drewN HB4.out q1)) HL.out).mono ?_
    rintro e w5 ⟨rfl, hown5, hb5⟩
    have HO5 := Lib.hid hown5
    have HO25 := Lib.hid ((HO24.out.drewN q1).below hb5)
    have HO35 := Lib.hid ((HO34.out.drewN q1).below hb5)
    have HO45 := Lib.hid ((HO4.out.drewN q1).below hb5)
    have HB5 : Hid (Below w.heap.size w w5) := (below_drewN HB4.out q1).trans (hb5.mono HB4.out.size)
    have hz45 : w4.heap.size ≤ w5.heap.size := hb5.size
    clear hown5 hb5
    go_wp2_with fail
    refine (eqi_any _ zs.length zs _ zs.length zs _ HO35.out.ints HO5.out.ints HLM.out HLM.out).mono ?_
    rintro e w' ⟨rfl, q2, rfl⟩
    rw [dec_self]
    go_wp2_with fail
    refine (mark_any _ _ _ zs _ (HO35.out.drewN q2) HL.out).mono ?_
    rintro e w6 ⟨rfl, hown6, hg6, _⟩
    have hg6' := hg6 w2.heap.size rfl
    have HO26 := Lib.hid (own_ne (HO25.out.drewN q2) hg6' (fun g hA => by have := own_lt HO2.out g hA; omega))
    have HO46 := Lib.hid (own_ne (HO45.out.drewN q2) hg6' (fun g hA => by have := own_lt HO4.out g hA; have h3 := own_lt HO3.out w2.heap.size rfl; omega))
    have HB6 : Hid (Below w.heap.size w w6) := (below_drewN HB5.out q2).grown hg6' (by have := HB5.out.size; simp; omega) (fun k hk => by injection hk with hk; have := HB2.out.size; omega)
    have hz56 : w5.heap.size ≤ w6.heap.size := hg6'.size
    clear hown6 hg6 hg6'
    have hk1 : ¬ (((1 + zs.length : Nat) : Int) < 0) := by omega
    go_wp2_with fail
    refine (eqi_any A4 c4 R A2 c2 R _ HO46.out.ints HO26.out.ints HRM.out HRM.out).mono ?_
    rintro e w' ⟨rfl, q3, rfl⟩
    rw [dec_self]
    go_wp2_with fail
    refine (mark_any _ A4 c4 R _ (HO46.out.drewN q3) HRS.out).mono ?_
    rintro e w7 ⟨rfl, hown7, hg7, hn7⟩
    have HO7 := Lib.hid hown7
    have HOB : Hid (OwnInts w7 w1.heap.size A2 c2 R ∧ Below w.heap.size w w7 ∧ w6.heap.size ≤ w7.heap.size) := by
      cases hA4 : A4 with
      | none =>
        have e := hn7 hA4
        rw [← e]
        exact ⟨HO26.out.drewN q3, below_drewN HB6.out q3, Nat.le_refl _⟩
      | some ad =>
        have : ∃ g, ad = ⟨g, 0, none⟩ := by
          have hh := HO4.out
          rw [hA4] at hh
          rcases hh.2 with ⟨hv, _⟩ | ⟨g, c, cur, hv, _⟩
          · injection hv with hA _ _; cases hA
          · injection hv with hA _ _; injection hA with hA; exact ⟨g, hA⟩
        obtain ⟨g, rfl⟩ := this
        have hg := hg7 g hA4
        have hgl := own_lt HO4.out g hA4
        refine ⟨own_ne (HO26.out.drewN q3) hg (fun g' hA => by have := own_lt HO2.out g' hA; have h3 := own_lt HO3.out w2.heap.size rfl; omega), (below_drewN HB6.out q3).grown hg (by have := HB6.out.size; simp; omega) (fun k hk => by injection hk with hk; have := HB3.out.size; omega), hg.size⟩
    clear hown7 hg7 hn7
    have hrn : R.length ≤ 1048576 := HRS.out
    have hm7 : IntsAt w7 w7.heap.size A4 (marks 1 R.length) := HO7.out.ints
    have HM7 := Lib.hid hm7
    clear hm7
    have hk2 : ¬ (((1 + R.length : Nat) : Int) < 0) := by omega
    go_wp2_with fail
    refine (held_any A4 c4 R.length _ HM7.out HRS.out).mono ?_
    rintro e w' ⟨rfl, rfl⟩
    have hqm : ((((1 + R.length : Nat) : Int)) != ((1 + R.length : Nat) : Int)) = false := by simp
    go_wp2_with fail
    refine (toInts_any A cap zs _ (HI.out.belowS HOB.out.2.1) HL.out).mono ?_
    rintro e w8 ⟨rfl, hown8, hb8⟩
    have HO8 := Lib.hid hown8
    have HO28 := Lib.hid (HOB.out.1.below hb8)
    have HM8 := Lib.hid (HM7.out.belowS hb8)
    have HB8 : Hid (Below w.heap.size w w8) := HOB.out.2.1.trans (hb8.mono HOB.out.2.1.size)
    clear hown8 hb8
    go_wp2_with fail
    refine (proof_any zs m w7.heap.size 0 zs.length _ HO8.out.ints (Nat.le_refl _) HLM.out).mono ?_
    rintro e w9 ⟨A9, c9, rfl, hown9, hb9⟩
    rw [HR.out] at hown9 ⊢
    have HO9 := Lib.hid hown9
    have HO29 := Lib.hid (HO28.out.below hb9)
    have HM9 := Lib.hid (HM8.out.belowS hb9)
    have HB9 : Hid (Below w.heap.size w w9) := HB8.out.trans (hb9.mono HB8.out.size)
    clear hown9 hb9
    go_wp2_with fail
    refine (eqi_any A9 c9 R A2 c2 R _ HO9.out.ints HO29.out.ints HRM.out HRM.out).mono ?_
    rintro e w' ⟨rfl, q4, rfl⟩
    rw [dec_self]
    go_wp2_with fail
    refine (held_any A4 c4 R.length _ (HM9.out.drewN q4) HRS.out).mono ?_
    rintro e w' ⟨rfl, rfl⟩
    go_wp2
    go_ret
    exact ⟨rfl, below_drewN HB9.out q4⟩
  · have h9 : 1048576 < zs.length := by omega
    clear hlen
    go_enter Try.func4, Try.ntmps4
    go_wp2
    go_ret
    exact ⟨rfl, Below.refl _ _⟩

end Go.Proofs.Ytlkgadgjcjpdcaa
