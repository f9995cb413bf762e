/- The walk of FnRareWhole: it returns true and changes nothing that was there. Condition: the codes' bytes lie in memory. -/
import Derived.Test.YtgjnhfciphiciaaRareLaws
import Derived.Test.YtgjnhfciphiciaaHolders
import Derived.Test.YtgjnhfciphiciaaSame
import Derived.Test.YtgjnhfciphiciaaDrawPeers
import Derived.Test.YtgjnhfciphiciaaDrawWhole
namespace Go.Proofs.Ytgjnhfciphiciaa
open Go.RowKit
set_option linter.unusedVariables false

set_option maxHeartbeats 8000000 in
set_option maxRecDepth 100000 in
theorem walkRareWhole (A : Option Addr) (len cap : Nat) (w : World) (hI : In w A len cap) :
    Calls Try.prog 8 #[.slice A len cap] w fun e w' => e = .returned (.bool true) ∧ Below w.heap.size w w' := by
  have hm := hI.len_le
  unfold maxLen at hm
  have HI := Lib.hid hI
  clear hI
  by_cases hlen : len ≤ 1048576
  · go_enter Try.func8, Try.ntmps8
    go_wp2_with fail
    refine (drawRareWhole_any A len cap _ HI.out).mono ?_
    rintro e w1 ⟨X, c, hs, b0, rfl, hl7, hb100, hb200, hp1, hb1⟩
    have PP1 := Lib.hid hp1
    have HB1 := Lib.hid hb1
    clear hp1 hb1
    obtain ⟨n, HN⟩ : ∃ v, Hid (hs.length = v) := ⟨_, rfl⟩
    rw [HN.out] at hl7
    rw [HN.out]
    obtain ⟨v, HV⟩ : ∃ v, Hid (wholeZ (pz hs) b0 = v) := ⟨_, rfl⟩
    go_wp2_with fail
    have CI := Lib.hid (whole_any X c hs b0 w1 _ PP1.out)
    rw [HN.out, HV.out] at CI
    refine CI.out.mono ?_
    rintro e w1 ⟨rfl, rfl⟩
    clear CI
    go_wp2_with fail
    have CI := Lib.hid (srareWhole_any X c hs b0 w1 _ PP1.out)
    rw [HN.out, HV.out] at CI
    refine CI.out.mono ?_
    rintro e w1 ⟨rfl, rfl⟩
    clear CI
    have hne : (v != v) = false := by simp
    have heq : (v == v) = true := by simp
    by_cases hv0 : v < 0
    · go_wp2
      go_ret
      exact ⟨rfl, HB1.out⟩
    · have hv0h : ¬ v < 0 := hv0
      obtain ⟨hok, hb0, hb16⟩ : okP (pz hs) = true ∧ 0 ≤ b0 ∧ b0 ≤ 16 := by
        by_cases h : okP (pz hs) = true ∧ 0 ≤ b0 ∧ b0 ≤ 16
        · exact h
        · have := HV.out; rw [wholeZ_no h] at this; omega
      obtain ⟨j, rfl⟩ : ∃ j : Nat, b0 = (j : Int) := ⟨b0.toNat, by omega⟩
      obtain ⟨r, HR⟩ : ∃ v, Hid (least (pz hs) j = v) := ⟨_, rfl⟩
      have hvr : v = (r : Int) := by rw [← HV.out, ← HR.out]; unfold wholeZ; rw [if_pos ⟨hok, by omega, by omega⟩]; rfl
      subst hvr
      clear hok hb100 hb200
      have hv0i : ¬ (r : Int) < 0 := by omega
      by_cases hj0 : j = 0
      · subst hj0
        have hrn : (r : Int) = (n : Int) := by rw [← HR.out, ← HN.out, ← pz_length]; rfl
        have hrb : ((r : Int) == (n : Int)) = true := by rw [hrn]; simp
        go_wp2
        go_loop [7, 8] (fun f i => ∃ u : Unit, f = .bool true ∧ i = .int .i64 0) (fun _ _ => 0)
        case atStart => exact ⟨(), rfl, rfl⟩
        case round =>
          obtain ⟨u, rfl, rfl⟩ := hrel
          go_wp2
          go_ret
          exact ⟨rfl, HB1.out⟩
      · have hj0b : ((j : Int) == 0) = false := by simp; omega
        go_wp2
        go_loop [7, 8] (fun f i => ∃ (k : Nat) (g : Bool), k ≤ j ∧ f = .bool g ∧ i = .int .i64 (k : Int) ∧ Hid (foundTo (pz hs) r k = g)) (fun _ i => j - (intOf i).toNat)
        case atStart => exact ⟨0, false, by omega, rfl, rfl, rfl⟩
        case round =>
          obtain ⟨k, g, hk, rfl, rfl, HG⟩ := hrel
          by_cases hlt : k < j
          · have hki : (k : Int) < (j : Int) := by omega
            have CK := Lib.hid (holders_any X c k hs w1 _ PP1.out)
            rw [HN.out] at CK
            have hle : r ≤ cntB (pz hs) k := by rw [← HR.out]; exact least_bound _ j k hlt
            have HG2 : Hid (foundTo (pz hs) r (k + 1) = (g || decide (r = cntB (pz hs) k))) := by show _ = _; rw [← HG.out]; rfl
            obtain ⟨ck, HCK⟩ : ∃ v, Hid (cntB (pz hs) k = v) := ⟨_, rfl⟩
            rw [HCK.out] at CK hle HG2
            have hlei : ¬ (ck : Int) < (r : Int) := by omega
            go_wp2_with fail
            refine CK.out.mono ?_
            rintro e w5 ⟨rfl, hw5⟩
            subst hw5
            cases g with
            | true =>
              clear CK
              go_wp2
              go_round
              case rel => exact ⟨k + 1, true, by omega, rfl, by go_num, HG2⟩
              case measure => simp [intOf]; omega
            | false =>
              go_wp2_with fail
              refine CK.out.mono ?_
              rintro e w6 ⟨rfl, hw6⟩
              subst hw6
              clear CK
              by_cases hrc : r = ck
              · have HG3 : Hid (foundTo (pz hs) r (k + 1) = true) := by show _ = _; rw [HG2.out, hrc]; simp
                clear HG2
                subst hrc
                go_wp2
                go_round
                case rel => exact ⟨k + 1, true, by omega, rfl, by go_num, HG3⟩
                case measure => simp [intOf]; omega
              · have hrb : ((r : Int) == (ck : Int)) = false := by simp; omega
                have HG3 : Hid (foundTo (pz hs) r (k + 1) = false) := by show _ = _; rw [HG2.out, decide_eq_false hrc]; rfl
                go_wp2
                go_round
                case rel => exact ⟨k + 1, false, by omega, rfl, by go_num, HG3⟩
                case measure => simp [intOf]; omega
          · have hki : ¬ (k : Int) < (j : Int) := by omega
            have hkj : k = j := by omega
            subst hkj
            have hg : g = true := by rw [← HG.out, ← HR.out]; exact foundTo_all _ k (by omega)
            subst hg
            go_wp2
            go_ret
            exact ⟨rfl, HB1.out⟩
  · have h9 : 1048576 < len := by omega
    clear hlen
    go_enter Try.func8, Try.ntmps8
    go_wp2
    go_ret
    exact ⟨rfl, Below.refl _ _⟩

end Go.Proofs.Ytgjnhfciphiciaa
