/- The walk of FnRunsPositive: it returns true and changes nothing that was there. Condition: the code's bytes lie in memory. -/
import Derived.Test.YtmepbogfdpmfaaaRunsLaws
import Derived.Test.YtmepbogfdpmfaaaDrawBits
import Derived.Test.YtmepbogfdpmfaaaExactKeep
import Derived.Test.YtmepbogfdpmfaaaSame
import Derived.Deep.QuietTactic
import Derived.BigQuiet
import Derived.IntWalk
namespace Go.Proofs.Ytmepbogfdpmfaaa
open Go.RowKit
set_option linter.unusedVariables false

set_option maxHeartbeats 4000000 in
set_option maxRecDepth 100000 in
theorem walkRunsPositive (A : Option Addr) (len cap : Nat) (w : World) (hI : In w A len cap) :
    Calls Try.prog 6 #[.slice A len cap] w fun e w' => e = .returned (.bool true) ∧ Below w.heap.size w w' := by
  have hm := hI.len_le
  unfold maxLen at hm
  have HI := Lib.hid hI
  clear hI
  by_cases hlen : len ≤ 1048576
  · go_enter Try.func6, Try.ntmps6
    go_wp2_with fail
    refine (drawruns_any A len cap _ HI.out).mono ?_
    rintro e w1 ⟨b, c, bs, rfl, hz18, hown1, hb1⟩
    have HO1 := Lib.hid hown1
    have HB1 := Lib.hid hb1
    have HLM : Hid (bs.length ≤ maxLen) := by show _ ≤ _; unfold maxLen; omega
    clear hown1 hb1
    go_wp2_with fail
    refine (bitsRuns_any _ c bs _ HO1.out.ints).mono ?_
    rintro e w2 ⟨A2, c2, rfl, hown2, hb2⟩
    have HG2 := Lib.hid hown2
    have HO2 := Lib.hid (HO1.out.below hb2)
    have HB2 : Hid (Below w.heap.size w w2) := HB1.out.trans (hb2.mono HB1.out.size)
    clear hown2 hb2
    go_wp2_with fail
    refine (sbitsRuns_any _ c bs _ HO2.out.ints HLM.out).mono ?_
    rintro e w3 ⟨A3, c3, rfl, hown3, hb3⟩
    have HS3 := Lib.hid hown3
    have HG3 := Lib.hid (HG2.out.below hb3)
    have HO3 := Lib.hid (HO2.out.below hb3)
    have HB3 : Hid (Below w.heap.size w w3) := HB2.out.trans (hb3.mono HB2.out.size)
    clear hown3 hb3
    have HRM : Hid ((runsOr bs).length ≤ maxLen) := by show _ ≤ _; have := runsOr_short bs; unfold maxLen; omega
    go_wp2_with fail
    refine (same_any A2 c2 _ A3 c3 _ _ HG3.out.ints HS3.out.ints HRM.out HRM.out).mono ?_
    rintro e w' ⟨rfl, q, rfl⟩
    rw [deci_same]
    by_cases h16 : bs.length ≤ 16
    · have htold := runs_told bs
      have HRY : Hid (runsOr bs = runsInts bs) := runsOr_yes h16
      obtain ⟨zs, HZ⟩ : ∃ zs, Hid (runsInts bs = zs) := ⟨_, rfl⟩
      rw [HZ.out] at htold
      have HT := Lib.hid htold
      clear htold
      have hg := HG3.out
      rw [HRY.out, HZ.out] at hg
      have HG := Lib.hid hg
      clear hg
      have hL : (runsOr bs).length ≤ 17 := runsOr_short bs
      by_cases h0 : (runsOr bs).length = 0
      · have h00 : (((runsOr bs).length : Int) == 0) = true := by simp [h0]
        clear h0
        go_wp2_with fail
        refine (same_any A2 c2 _ A3 c3 _ _ (HG3.out.drewN q).ints (HS3.out.drewN q).ints HRM.out HRM.out).mono ?_
        rintro e w' ⟨rfl, q1, rfl⟩
        rw [deci_same]
        go_wp2
        go_ret
        exact ⟨rfl, below_drewN HB3.out _⟩
      · have h00 : (((runsOr bs).length : Int) == 0) = false := beq_eq_false_iff_ne.2 (by omega)
        obtain ⟨L, HL⟩ : ∃ L, Hid ((runsOr bs).length = L) := ⟨_, rfl⟩
        have HLZ : Hid (zs.length = L) := by show _ = _; rw [← HL.out, HRY.out, HZ.out]
        rw [HL.out] at hL h0 h00 ⊢
        have hL0 : 0 < L := by omega
        clear h0
        go_wp2
        go_loop [6] (fun i => ∃ k : Nat, 1 ≤ k ∧ k ≤ L ∧ i = .int .i64 k) (fun i => L - (intOf i).toNat)
        case atStart => exact ⟨1, by omega, by omega, rfl⟩
        case round =>
          obtain ⟨k, hk1, hk, rfl⟩ := hrel
          obtain ⟨blk, o, rfl, hbl, hc⟩ := HG.out.ints (by rw [HLZ.out]; omega)
          by_cases hlt : k < L
          · have hck := hc k (by rw [HLZ.out]; exact hlt)
            have hp := HT.out.pos k hk1 (by rw [HLZ.out]; exact hlt)
            obtain ⟨z, HZK⟩ : ∃ z, Hid (nth zs k = z) := ⟨_, rfl⟩
            rw [HZK.out] at hck hp
            have hki : (k : Int) < (L : Int) := by omega
            have hpz : ¬ z ≤ 0 := by omega
            clear hc
            go_wp2
            go_round
            case rel => exact ⟨k + 1, by omega, by omega, by go_num⟩
            case measure => simp [intOf]; omega
          · have hf := first_run HT.out (by rw [HLZ.out]; omega)
            have hc0 := hc 0 (by rw [HLZ.out]; omega)
            have hb0 : 0 < bs.length := by
              rcases Nat.eq_zero_or_pos bs.length with e | e
              · have := List.eq_nil_of_length_eq_zero e
                subst this
                have := HLZ.out
                rw [← HZ.out] at this
                simp [runsInts, runsL, runSt] at this
                omega
              · exact e
            have hcb := (HO3.out.ints.lt hb0).2 0 hb0
            rw [Nat.add_zero] at hc0 hcb
            obtain ⟨z, HZK⟩ : ∃ z, Hid (nth zs 0 = z) := ⟨_, rfl⟩
            obtain ⟨d, HD⟩ : ∃ d, Hid (bth bs 0 = d) := ⟨_, rfl⟩
            rw [HZK.out] at hc0 hf
            rw [HD.out] at hcb hf
            obtain ⟨m, HM⟩ : ∃ m, Hid (bs.length = m) := ⟨_, rfl⟩
            rw [HM.out] at hb0 ⊢
            have hee : ((z == 0) == d) = true := by rw [hf]; simp
            have hL1 : (0 : Int) < (L : Int) := by omega
            have hb1 : (0 : Int) < (m : Int) := by omega
            clear hc hf
            go_wp2_with fail
            go_quiet (fail)
            go_wp2
            go_ret
            exact ⟨ret_bool (by first | rfl | exact hee | simpa using hee), below_drewN (below_drewN HB3.out q) _⟩
    · have h00 : (((runsOr bs).length : Int) == 0) = true := by rw [runsOr_no (by omega)]; rfl
      go_wp2_with fail
      refine (same_any A2 c2 _ A3 c3 _ _ (HG3.out.drewN q).ints (HS3.out.drewN q).ints HRM.out HRM.out).mono ?_
      rintro e w' ⟨rfl, q1, rfl⟩
      rw [deci_same]
      go_wp2
      go_ret
      exact ⟨rfl, below_drewN HB3.out _⟩
  · have h9 : 1048576 < len := by omega
    clear hlen
    go_enter Try.func6, Try.ntmps6
    go_wp2
    go_ret
    exact ⟨rfl, Below.refl _ _⟩

end Go.Proofs.Ytmepbogfdpmfaaa
