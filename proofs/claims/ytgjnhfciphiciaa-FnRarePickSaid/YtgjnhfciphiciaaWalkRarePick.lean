/- The walk of FnRarePick: it returns true and changes nothing that was there. Condition: the codes' bytes lie in memory. -/
import Derived.Test.YtgjnhfciphiciaaRareLaws
import Derived.Test.YtgjnhfciphiciaaHolders
import Derived.Test.YtgjnhfciphiciaaSame
import Derived.Test.YtgjnhfciphiciaaDrawPeers
namespace Go.Proofs.Ytgjnhfciphiciaa
open Go.RowKit
set_option linter.unusedVariables false

set_option maxHeartbeats 8000000 in
set_option maxRecDepth 100000 in
theorem walkRarePick (A : Option Addr) (len cap : Nat) (w : World) (hI : In w A len cap) :
    Calls Try.prog 6 #[.slice A len cap] w fun e w' => e = .returned (.bool true) ∧ Below w.heap.size w w' := by
  have hm := hI.len_le
  unfold maxLen at hm
  have HI := Lib.hid hI
  clear hI
  by_cases hlen : len ≤ 1048576
  · go_enter Try.func6, Try.ntmps6
    go_wp2_with fail
    refine (drawRarePick_any A len cap _ HI.out).mono ?_
    rintro e w1 ⟨X, c, hs, Y, d, mine, pr, rfl, hl7, hm18, hpa, hpb, hp1, ho1, hb1⟩
    have PP1 := Lib.hid hp1
    have PM1 := Lib.hid ho1
    have HB1 := Lib.hid hb1
    clear hp1 ho1 hb1
    obtain ⟨n, HN⟩ : ∃ v, Hid (hs.length = v) := ⟨_, rfl⟩
    obtain ⟨m, HM⟩ : ∃ v, Hid (mine.length = v) := ⟨_, rfl⟩
    obtain ⟨v, HV⟩ : ∃ v, Hid (pickZ (pz hs) mine pr = v) := ⟨_, rfl⟩
    rw [HN.out] at hl7
    rw [HM.out] at hm18
    rw [HN.out, HM.out]
    go_wp2_with fail
    have CI := Lib.hid (pick_blk_any X c hs Y d mine pr w1 PP1.out PM1.out.ints)
    rw [HN.out, HM.out, HV.out] at CI
    refine CI.out.mono ?_
    rintro e w2 ⟨rfl, hb2⟩
    clear CI
    have PP2 := Lib.hid (PP1.out.belowS hb2)
    have PM2 := Lib.hid (PM1.out.below hb2)
    have HB2 : Hid (Below w.heap.size w w2) := HB1.out.trans (hb2.mono HB1.out.size)
    clear hb2
    go_wp2_with fail
    have CI := Lib.hid (spick_any X c hs Y d mine pr w2 PP2.out PM2.out.ints)
    rw [HN.out, HM.out, HV.out] at CI
    refine CI.out.mono ?_
    rintro e w3 ⟨rfl, hb3⟩
    clear CI
    have PP3 := Lib.hid (PP2.out.belowS hb3)
    have PM3 := Lib.hid (PM2.out.below hb3)
    have HB3 : Hid (Below w.heap.size w w3) := HB2.out.trans (hb3.mono HB2.out.size)
    clear hb3
    obtain ⟨os, HOS⟩ : ∃ v, Hid (natZ (orderN (pz hs) mine) = v) := ⟨_, rfl⟩
    obtain ⟨l, HL⟩ : ∃ v, Hid (os.length = v) := ⟨_, rfl⟩
    have hl16 : l ≤ 16 := by rw [← HL.out, ← HOS.out, natZ_length]; exact orderN_len _ _
    have hne : (v != v) = false := by simp
    go_wp2_with fail
    have CI := Lib.hid (order_any X c hs Y d mine w3 PP3.out PM3.out.ints)
    rw [HN.out, HM.out, HOS.out] at CI
    refine CI.out.mono ?_
    rintro e w4 ⟨A4, c4, rfl, ho4, hb4⟩
    rw [HL.out]
    have PO4 := Lib.hid ho4
    clear ho4 CI
    have PP4 := Lib.hid (PP3.out.belowS hb4)
    have PM4 := Lib.hid (PM3.out.below hb4)
    have HB4 : Hid (Below w.heap.size w w4) := HB3.out.trans (hb4.mono HB3.out.size)
    clear hb4
    by_cases hpv : 0 ≤ pr ∧ pr < (n : Int)
    · obtain ⟨hp0, hpn⟩ := hpv
      obtain ⟨p, rfl⟩ : ∃ p : Nat, pr = (p : Int) := ⟨pr.toNat, by omega⟩
      have hpn' : p < n := by omega
      have hpz : p < hs.length := by rw [HN.out]; exact hpn'
      obtain ⟨pb, po, hpA, _, hpc⟩ := PP4.out.cell p hpz
      have hpI := PP4.out.one p hpz
      have hpd : pth (pz hs) p = (hth hs p).zs := pth_pz hs p
      obtain ⟨z, HZ⟩ : ∃ v, Hid (hth hs p = v) := ⟨_, rfl⟩
      rw [HZ.out] at hpc hpI hpd
      obtain ⟨za, zc, zz⟩ := z
      simp only at hpc hpI hpd
      have HPI := Lib.hid hpI
      have HPD := Lib.hid hpd
      subst hpA
      obtain ⟨zl, HZL⟩ : ∃ v, Hid (zz.length = v) := ⟨_, rfl⟩
      rw [HZL.out] at hpc
      clear hpI hpd hpz
      go_wp2
      go_loopw [9] (fun i w' => ∃ k : Nat, k ≤ l ∧ i = .int .i64 (k : Int) ∧ Hid (∀ x ∈ (orderN (pz hs) mine).take k, bth (pth (pz hs) p) x = false) ∧ ∃ q, w' = w4.drewN q) (fun i _ => l - (intOf i).toNat)
      case atStart => exact ⟨0, by omega, rfl, (fun x hx => by simp at hx), 0, rfl⟩
      case round =>
        obtain ⟨k, hk, rfl, HQ, nd, rfl⟩ := hrel
        by_cases hlt : k < l
        · have hl : k < (orderN (pz hs) mine).length := by rw [← natZ_length, HOS.out, HL.out]; exact hlt
          have hx16 := orderN_at (ps := pz hs) (mine := mine) (i := k) hl
          have hnk := nth_natZ (orderN (pz hs) mine) k hl
          rw [HOS.out] at hnk
          obtain ⟨b, o, hA, _, hc⟩ := PO4.out.ints (by rw [HL.out]; omega)
          have hc0 := hc k (by rw [HL.out]; omega)
          rw [hnk] at hc0
          subst hA
          have HYES : Hid (bth (pth (pz hs) p) (orderN (pz hs) mine)[k] = true → pickN (pz hs) mine p = some (orderN (pz hs) mine)[k]) := fun h => pick_at hl HQ.out h
          have HNO : Hid (bth (pth (pz hs) p) (orderN (pz hs) mine)[k] = false → ∀ x ∈ (orderN (pz hs) mine).take (k + 1), bth (pth (pz hs) p) x = false) := fun h => take_next hl HQ.out h
          obtain ⟨x, HX⟩ : ∃ v, Hid ((orderN (pz hs) mine)[k]'hl = v) := ⟨_, rfl⟩
          rw [HX.out] at hc0 hx16 HYES HNO
          have hki : (k : Int) < (l : Int) := by omega
          clear hc hnk HX hl
          by_cases hxz : x < zl
          · obtain ⟨zb, zo, hZ, _, hzc⟩ := HPI.out (by rw [HZL.out]; omega)
            have hzk := hzc x (by rw [HZL.out]; exact hxz)
            subst hZ
            have hxzi : (x : Int) < (zl : Int) := by omega
            have hxzd : decide ((x : Int) < (zl : Int)) = true := by simp; omega
            clear hzc
            rw [HPD.out] at HYES HNO
            obtain ⟨bt, HBT⟩ : ∃ v, Hid (bth zz x = v) := ⟨_, rfl⟩
            rw [HBT.out] at hzk HYES HNO
            cases bt with
            | true =>
              have HPN := Lib.hid (HYES.out rfl)
              have HE : Hid (v = (x : Int)) := by show _ = _; rw [← HV.out]; exact pickZ_some (by rw [pz_length, HN.out]; exact hpn') HPN.out
              have hee : (v == (x : Int)) = true := by rw [HE.out]; simp
              go_wp2_with fail
              go_quiet (fail)
              go_wp2
              go_ret
              first | exact ⟨rfl, below_drewN HB4.out _⟩ | exact ⟨rfl, below_drewN (below_drewN HB4.out _) _⟩ | exact ⟨ret_bool hee, below_drewN HB4.out _⟩
            | false =>
              have HQ2 : Hid _ := HNO.out rfl
              clear HYES HNO
              go_wp2_with fail
              go_quiet (fail)
              go_wp2
              go_roundw
              case rel => exact ⟨k + 1, by omega, by go_num, by rw [HPD.out]; exact HQ2, _, by first | rfl | exact World.drewN_drewN _ _ _⟩
              case measure => simp [intOf]; omega
          · have hxzi : ¬ (x : Int) < (zl : Int) := by omega
            have hxzd : decide ((x : Int) < (zl : Int)) = false := by simp; omega
            have hbo : bth (pth (pz hs) p) x = false := by rw [HPD.out]; exact bth_out zz x (by rw [HZL.out]; omega)
            have HQ2 := Lib.hid (HNO.out hbo)
            clear HYES HNO hbo
            go_wp2_with fail
            go_quiet (fail)
            go_wp2
            go_roundw
            case rel => exact ⟨k + 1, by omega, by go_num, HQ2, _, by first | rfl | exact World.drewN_drewN _ _ _⟩
            case measure => simp [intOf]; omega
        · have hki : ¬ (k : Int) < (l : Int) := by omega
          have HPN : Hid (pickN (pz hs) mine p = none) := pick_not (by
            have := HQ.out
            rwa [List.take_of_length_le (by rw [← natZ_length, HOS.out, HL.out]; omega)] at this)
          have HE : Hid (v = -1) := by show _ = _; rw [← HV.out]; exact pickZ_none (by rw [pz_length, HN.out]; exact hpn') HPN.out
          have hee : (v == -1) = true := by rw [HE.out]; simp
          go_wp2
          go_ret
          first | exact ⟨rfl, below_drewN HB4.out _⟩ | exact ⟨rfl, below_drewN (below_drewN HB4.out _) _⟩ | exact ⟨ret_bool hee, below_drewN HB4.out _⟩
    · have HE : Hid (v = -1) := by show _ = _; rw [← HV.out]; exact pickZ_out (by rw [pz_length, HN.out]; omega)
      have hee : (v == -1) = true := by rw [HE.out]; simp
      go_wp2
      go_loop [9] (fun i => ∃ u : Unit, i = .int .i64 0) (fun i => 0)
      case atStart => exact ⟨(), rfl⟩
      case round =>
        obtain ⟨u, rfl⟩ := hrel
        by_cases hl0 : 0 < l
        · have hl0i : (0 : Int) < (l : Int) := by omega
          by_cases hp0 : 0 ≤ pr
          · have hpn2 : ¬ pr < (n : Int) := by omega
            go_wp2
            go_ret
            first | exact ⟨rfl, HB4.out⟩ | exact ⟨ret_bool hee, HB4.out⟩
          · go_wp2
            go_ret
            first | exact ⟨rfl, HB4.out⟩ | exact ⟨ret_bool hee, HB4.out⟩
        · have hl0i : ¬ (0 : Int) < (l : Int) := by omega
          go_wp2
          go_ret
          first | exact ⟨rfl, HB4.out⟩ | exact ⟨ret_bool hee, HB4.out⟩
  · have h9 : 1048576 < len := by omega
    clear hlen
    go_enter Try.func6, Try.ntmps6
    go_wp2
    go_ret
    exact ⟨rfl, Below.refl _ _⟩

end Go.Proofs.Ytgjnhfciphiciaa
