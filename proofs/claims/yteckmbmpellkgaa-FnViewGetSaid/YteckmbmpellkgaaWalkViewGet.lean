/- The walk of FnViewGet: it returns true and changes nothing that was there. Condition: the code's bytes lie in memory. -/
import Derived.Test.YteckmbmpellkgaaDrawView
import Derived.Test.YteckmbmpellkgaaViewGet
import Derived.Deep.DeepCutAuto
import Derived.Deep.RegionHeld3
import Derived.BigQuiet
import Derived.Deep.QuietTactic
namespace Go.Proofs.Yteckmbmpellkgaa
open Go.RowKit
set_option linter.unusedVariables false

set_option maxHeartbeats 8000000 in
set_option maxRecDepth 100000 in
theorem walkViewGet (A : Option Addr) (len cap : Nat) (w : World) (hI : In w A len cap) :
    Calls Try.prog 3 #[.slice A len cap] w fun e w' => e = .returned (.bool true) ∧ Below w.heap.size w w' := by
  have hm := hI.len_le
  unfold maxLen at hm
  have HI := Lib.hid hI
  clear hI
  by_cases hlen : len ≤ 1048576
  · go_enter Try.func3, Try.ntmps3
    go_wp2_with fail
    refine (drawPv_any A len cap _ HI.out).mono ?_
    rintro e w1 ⟨X, c, xs, key, rfl, ho, hl, hb1⟩
    have PF1 := Lib.hid ho
    have HB1 := Lib.hid hb1
    clear ho hb1
    obtain ⟨nb, HN⟩ : ∃ v, Hid (xs.length = v) := ⟨_, rfl⟩
    rw [HN.out] at hl ⊢
    obtain ⟨gv, HG⟩ : ∃ v, Hid (getN xs key = v) := ⟨_, rfl⟩
    obtain ⟨ov, HV⟩ : ∃ v, Hid (getO xs key = v) := ⟨_, rfl⟩
    have CI := Lib.hid (get_any X c xs key w1 (own_pv PF1.out) HN.out)
    rw [HG.out, HV.out] at CI
    go_wp2_with fail
    refine CI.out.mono ?_
    rintro e w2 ⟨rfl, hb⟩
    clear CI
    have PF2 := Lib.hid (PF1.out.below hb)
    have HB2 : Hid (Below w.heap.size w w2) := HB1.out.trans (hb.mono HB1.out.size)
    clear hb
    have CI := Lib.hid (sget_any X c xs key w2 (own_pv PF2.out) HN.out)
    rw [HG.out, HV.out] at CI
    go_wp2_with fail
    refine CI.out.mono ?_
    rintro e w3 ⟨rfl, hb⟩
    clear CI
    have PF3 := Lib.hid (PF2.out.below hb)
    have HB3 : Hid (Below w.heap.size w w3) := HB2.out.trans (hb.mono HB2.out.size)
    clear hb
    have hne : (ov != ov) = false := by simp
    have heq : (ov == ov) = true := by simp
    have gne : (gv != gv) = false := by simp
    have geq : (gv == gv) = true := by simp
    cases ov with
    | false =>
      go_wp2
      go_ret
      exact ⟨rfl, HB3.out⟩
    | true =>
      have HONE := Lib.hid (law_get_one HV.out)
      have HVAL : Hid (∀ x ∈ xs, x.n = key → x.t = gv) := fun x hx e => (law_get_value HV.out hx e).trans HG.out
      go_wp2
      go_loop [9, 10] (fun m i => ∃ (k j : Nat), k ≤ nb ∧ j ≤ k ∧ m = .int .i64 (j : Int) ∧ i = .int .i64 (k : Int) ∧ Hid ((xs.take k).countP (isK key) = j)) (fun _ i => nb - (intOf i).toNat)
      case atStart => exact ⟨0, 0, Nat.zero_le _, Nat.le_refl _, rfl, rfl, rfl⟩
      case round =>
        obtain ⟨k, j, hk, hj, rfl, rfl, HJ⟩ := hrel
        by_cases hlt : k < nb
        · have hkz : k < xs.length := by rw [HN.out]; exact hlt
          obtain ⟨b, o, hX⟩ := (own_pv PF3.out).row.some_ (by omega)
          subst hX
          obtain ⟨c0, c1⟩ := pv_cells (own_pv PF3.out).row k hkz
          have HST := Lib.hid (vcount_step (isK key) xs k hkz)
          have hval := HVAL.out _ (vth_mem xs k hkz)
          have HIS : Hid (isK key (vth xs k) = ((vth xs k).n == key)) := rfl
          obtain ⟨vn, HVN⟩ : ∃ v, Hid ((vth xs k).n = v) := ⟨_, rfl⟩
          obtain ⟨vt, HVT⟩ : ∃ v, Hid ((vth xs k).t = v) := ⟨_, rfl⟩
          rw [HVN.out] at c0 hval HIS
          rw [HVT.out] at c1 hval
          rw [HJ.out, HIS.out] at HST
          have hki : (k : Int) < (nb : Int) := by omega
          have hk0 : (0 : Int) ≤ (k : Int) := by omega
          have hwj : IntKind.i64.wrap ((j : Int) + 1) = (j : Int) + 1 := IntWalk.i64_in _ (by omega)
          clear hkz
          by_cases he : vn = key
          · have hee : (vn == key) = true := by simp [he]
            have hvg := hval he
            have hvn : (vt != gv) = false := by simp [hvg]
            have HJ2 : Hid ((xs.take (k + 1)).countP (isK key) = j + 1) := by show _ = _; rw [HST.out, hee]; rfl
            clear he hval hvg
            go_wp2
            go_round
            case rel => exact ⟨k + 1, j + 1, by omega, by omega, by go_num, by go_num, HJ2⟩
            case measure => simp [intOf]; omega
          · have hee : (vn == key) = false := beq_eq_false_iff_ne.2 he
            have HJ2 : Hid ((xs.take (k + 1)).countP (isK key) = j) := by show _ = _; rw [HST.out, hee]; rfl
            clear he hval
            go_wp2
            go_round
            case rel => exact ⟨k + 1, j, by omega, by omega, rfl, by go_num, HJ2⟩
            case measure => simp [intOf]; omega
        · have hkn : k = nb := by omega
          subst hkn
          have hj1 : j = 1 := by rw [← HJ.out, ← HN.out, List.take_length]; exact HONE.out
          subst hj1
          go_wp2
          go_ret
          exact ⟨rfl, HB3.out⟩
  · have h9 : 1048576 < len := by omega
    clear hlen
    go_enter Try.func3, Try.ntmps3
    go_wp2
    go_ret
    exact ⟨rfl, Below.refl _ _⟩

end Go.Proofs.Yteckmbmpellkgaa
