/- The walk of FnViewGetNone: it returns true and changes nothing that was there. Condition: the code's bytes lie in memory. -/
import Derived.Test.YteckmbmpellkgaaDrawView
import Derived.Test.YteckmbmpellkgaaViewGet
import Derived.Deep.DeepCutAuto
import Derived.Deep.RegionHeld3
import Derived.BigQuiet
import Derived.Deep.QuietTactic
namespace Go.Proofs.Yteckmbmpellkgaa
open Go.RowKit
set_option linter.unusedVariables false

set_option maxHeartbeats 8000000 in
set_option maxRecDepth 100000 in
theorem walkViewGetNone (A : Option Addr) (len cap : Nat) (w : World) (hI : In w A len cap) :
    Calls Try.prog 4 #[.slice A len cap] w fun e w' => e = .returned (.bool true) ∧ Below w.heap.size w w' := by
  have hm := hI.len_le
  unfold maxLen at hm
  have HI := Lib.hid hI
  clear hI
  by_cases hlen : len ≤ 1048576
  · go_enter Try.func4, Try.ntmps4
    go_wp2_with fail
    refine (drawPv_any A len cap _ HI.out).mono ?_
    rintro e w1 ⟨X, c, xs, key, rfl, ho, hl, hb1⟩
    have PF1 := Lib.hid ho
    have HB1 := Lib.hid hb1
    clear ho hb1
    obtain ⟨nb, HN⟩ : ∃ v, Hid (xs.length = v) := ⟨_, rfl⟩
    rw [HN.out] at hl ⊢
    obtain ⟨gv, HG⟩ : ∃ v, Hid (getN xs key = v) := ⟨_, rfl⟩
    obtain ⟨ov, HV⟩ : ∃ v, Hid (getO xs key = v) := ⟨_, rfl⟩
    have CI := Lib.hid (get_any X c xs key w1 (own_pv PF1.out) HN.out)
    rw [HG.out, HV.out] at CI
    go_wp2_with fail
    refine CI.out.mono ?_
    rintro e w2 ⟨rfl, hb⟩
    clear CI
    have PF2 := Lib.hid (PF1.out.below hb)
    have HB2 : Hid (Below w.heap.size w w2) := HB1.out.trans (hb.mono HB1.out.size)
    clear hb
    have CI := Lib.hid (sget_any X c xs key w2 (own_pv PF2.out) HN.out)
    rw [HG.out, HV.out] at CI
    go_wp2_with fail
    refine CI.out.mono ?_
    rintro e w3 ⟨rfl, hb⟩
    clear CI
    have PF3 := Lib.hid (PF2.out.below hb)
    have HB3 : Hid (Below w.heap.size w w3) := HB2.out.trans (hb.mono HB2.out.size)
    clear hb
    have hne : (ov != ov) = false := by simp
    have heq : (ov == ov) = true := by simp
    have gne : (gv != gv) = false := by simp
    have geq : (gv == gv) = true := by simp
    cases ov with
    | false =>
      go_wp2
      go_ret
      exact ⟨rfl, HB3.out⟩
    | true =>
      have HL := Lib.hid (law_less HV.out)
      have hn11 : nb ≤ 11 := hl
      obtain ⟨i0, zz, hi0, hz0, hz1, hz2, hz3⟩ := pv_app_info
      have HI0 := Lib.hid (And.intro hi0 (And.intro hz0 (And.intro hz1 (And.intro hz2 hz3))))
      clear hi0 hz0 hz1 hz2 hz3
      obtain ⟨wa, HWA⟩ : ∃ U, Hid (w3.alloc (.cells #[] 29) = U) := ⟨_, rfl⟩
      have HQ0 : Hid (Below w3.heap.size w3 wa) := by rw [← HWA.out]; exact (Below.refl _ _).alloc (Nat.le_refl _) _
      have HO0 : Hid (OwnRow VK wa w3.heap.size (some ⟨w3.heap.size, 0, none⟩) 0 []) := by rw [← HWA.out]; exact OwnRow.new VK w3
      go_upto_region 9 with fail
      rw [HWA.out]
      go_wp2
      go_loopw [9, 10] (fun s i wr => ∃ (k m x : Nat) (Y : Option Addr), k ≤ nb ∧ m ≤ k ∧ s = .slice Y m x ∧ i = .int .i64 (k : Int) ∧ Hid (((xs.take k).filter (fun x => !isK key x)).length = m) ∧ Hid (OwnRow VK wr w3.heap.size Y x ((xs.take k).filter (fun x => !isK key x))) ∧ Hid (Below w3.heap.size w3 wr)) (fun _ i _ => nb - (intOf i).toNat)
      case atStart => exact ⟨0, 0, 0, _, Nat.zero_le _, Nat.le_refl _, rfl, rfl, rfl, HO0, HQ0⟩
      case round =>
        obtain ⟨k, m, x, Y, hk, hm', rfl, rfl, HM, HO, HQ⟩ := hrel
        have HPF := Lib.hid (PF3.out.below HQ.out)
        have HBR : Hid (Below w.heap.size w wr) := HB3.out.trans (HQ.out.mono HB3.out.size)
        have hbz : w3.heap.size ≤ wr.heap.size := HQ.out.size
        by_cases hlt : k < nb
        · have hkz : k < xs.length := by rw [HN.out]; exact hlt
          obtain ⟨b, o, hX⟩ := (own_pv HPF.out).row.some_ (by omega)
          subst hX
          obtain ⟨c0, c1⟩ := pv_cells (own_pv HPF.out).row k hkz
          have HFS := Lib.hid (vfilter_step (fun x => !isK key x) xs k hkz)
          have HIS : Hid (isK key (vth xs k) = ((vth xs k).n == key)) := rfl
          have HONE : Hid (vth xs k = ⟨(vth xs k).n, (vth xs k).t⟩) := rfl
          obtain ⟨vn, HVN⟩ : ∃ v, Hid ((vth xs k).n = v) := ⟨_, rfl⟩
          obtain ⟨vt, HVT⟩ : ∃ v, Hid ((vth xs k).t = v) := ⟨_, rfl⟩
          rw [HVN.out] at c0 HIS
          rw [HVT.out] at c1
          have HON2 : Hid (vth xs k = ⟨vn, vt⟩) := by show _ = _; rw [← HVN.out, ← HVT.out]
          rw [HIS.out] at HFS
          have hki : (k : Int) < (nb : Int) := by omega
          have hk0 : (0 : Int) ≤ (k : Int) := by omega
          clear hkz
          by_cases he : vn = key
          · have hee : (vn == key) = true := by simp [he]
            have hen : (vn != key) = false := by simp [he]
            have HS2 : Hid ((xs.take (k + 1)).filter (fun x => !isK key x) = (xs.take k).filter (fun x => !isK key x)) := by
              show _ = _
              rw [HFS.out, hee]
              exact List.append_nil _
            clear he
            go_wp2
            go_roundw
            case rel => exact ⟨k + 1, m, x, Y, by omega, by omega, rfl, by go_num, by show _ = _; rw [HS2.out]; exact HM.out, by show OwnRow _ _ _ _ _ _; rw [HS2.out]; exact HO.out, HQ⟩
            case measure => simp [intOf]; omega
          · have hee : (vn == key) = false := beq_eq_false_iff_ne.2 he
            have hen : (vn != key) = true := by simp [he]
            have HS2 : Hid ((xs.take (k + 1)).filter (fun x => !isK key x) = (xs.take k).filter (fun x => !isK key x) ++ [(⟨vn, vt⟩ : VD)]) := by
              show _ = _
              rw [HFS.out, hee, HON2.out]; rfl
            clear he
            go_wp2_with (at_builtin; refine wpList_app_row (K := VK) Try.underlying23 HI0.out.1 HI0.out.2.1 HI0.out.2.2.1 HI0.out.2.2.2.1 HI0.out.2.2.2.2 (by decide) rfl (.tmp 67) (.tmp 72) rfl _ w3.heap.size Y x ((xs.take k).filter (fun x => !isK key x)) (by rw [HM.out]; rfl) _ _ [(⟨vn, vt⟩ : VD)] rfl (HO.out.alloc _) (one_newR VK _ ⟨vn, vt⟩ _) (by rw [HM.out]; show m + 1 ≤ 1000000; omega) (by simp; omega) (fun e => by cases e) ?_; intro v w7 hA; obtain ⟨Z, z, rfl, ho7⟩ := hA.own; have HQ7 : Hid (Below w3.heap.size w3 w7) := ((HQ.out.alloc hbz _).trans hA.below); have HO7 : Hid (OwnRow VK w7 w3.heap.size Z z ((xs.take (k + 1)).filter (fun x => !isK key x))) := (by rw [HS2.out]; exact ho7); have HL7 : Hid (((xs.take k).filter (fun x => !isK key x) ++ [(⟨vn, vt⟩ : VD)]).length = m + 1) := (by show _ = _; rw [List.length_append, HM.out]; rfl); have HL8 : Hid (((xs.take (k + 1)).filter (fun x => !isK key x)).length = m + 1) := (by rw [HS2.out]; exact HL7.out); rw [HL7.out]; clear hA ho7)
            go_roundw
            case rel => exact ⟨k + 1, m + 1, z, Z, by omega, by omega, rfl, by go_num, HL8, HO7, HQ7⟩
            case measure => simp [intOf]; omega
        · have hkn : k = nb := by omega
          subst hkn
          have HTK : Hid ((xs.take k).filter (fun x => !isK key x) = lessV xs key) := by
            show _ = _
            rw [← HN.out, List.take_length]; rfl
          rw [HTK.out] at HO HM
          have hmk : m + 1 = k := by rw [← HM.out, HL.out.2]; exact HN.out
          have hw1 : IntKind.i64.wrap ((k : Int) - 1) = (m : Int) := by rw [show (k : Int) - 1 = (m : Int) by omega]; exact IntWalk.i64_in _ (by omega)
          have hee : ((m : Int) == (m : Int)) = true := by simp
          have CI := Lib.hid (get_any Y x (lessV xs key) key wr (own_pv HO.out) HM.out)
          rw [HL.out.1] at CI
          clear hmk
          go_wp2_with fail
          refine CI.out.mono ?_
          rintro e wz ⟨rfl, hb⟩
          have HBZ : Hid (Below w.heap.size w wz) := HBR.out.trans (hb.mono HBR.out.size)
          clear hb
          go_wp2
          go_ret
          exact ⟨rfl, HBZ.out⟩
  · have h9 : 1048576 < len := by omega
    clear hlen
    go_enter Try.func4, Try.ntmps4
    go_wp2
    go_ret
    exact ⟨rfl, Below.refl _ _⟩

end Go.Proofs.Yteckmbmpellkgaa
