/- Contract of the model's rarest block of a peer. Conditions: the bits lie in memory. -/
import Derived.Test.YtgjnhfciphiciaaSRareOrd
import Derived.Deep.QuietTactic
import Derived.BigQuiet
namespace Go.Proofs.Ytgjnhfciphiciaa
open Go.RowKit
set_option linter.unusedVariables false

theorem nth_natZ (ks : List Nat) (k : Nat) (hk : k < ks.length) : nth (natZ ks) k = ((ks[k] : Nat) : Int) := by
  unfold nth natZ
  rw [List.getD_eq_getElem?_getD, List.getElem?_map, List.getElem?_eq_getElem hk]; rfl
theorem pick_at {ps : List (List Bool)} {mine : List Bool} {p k : Nat} (hk : k < (orderN ps mine).length) (hq : ∀ x ∈ (orderN ps mine).take k, bth (pth ps p) x = false) (hf : bth (pth ps p) (orderN ps mine)[k] = true) : pickN ps mine p = some (orderN ps mine)[k] := by
  unfold pickN
  rw [List.find?_eq_some_iff_append]
  refine ⟨hf, (orderN ps mine).take k, (orderN ps mine).drop (k + 1), ?_, fun x hx => by rw [hq x hx]; rfl⟩
  rw [← List.drop_eq_getElem_cons hk, List.take_append_drop]
theorem pick_not {ps : List (List Bool)} {mine : List Bool} {p : Nat} (hq : ∀ x ∈ orderN ps mine, bth (pth ps p) x = false) : pickN ps mine p = none := by
  unfold pickN
  rw [List.find?_eq_none]
  intro x hx
  rw [hq x hx]
  decide
theorem take_next {ks : List Nat} {k : Nat} {f : Nat → Bool} (hk : k < ks.length) (hq : ∀ x ∈ ks.take k, f x = false) (h : f ks[k] = false) : ∀ x ∈ ks.take (k + 1), f x = false := by
  intro x hx
  rw [List.take_succ_eq_append_getElem hk, List.mem_append, List.mem_singleton] at hx
  rcases hx with hx | rfl
  · exact hq x hx
  · exact h

set_option maxHeartbeats 4000000 in
set_option maxRecDepth 100000 in
theorem spick_any (A : Option Addr) (cap : Nat) (hs : List PH) (M : Option Addr) (mc : Nat) (mine : List Bool) (p : Int) (w : World) (hP : PAt w w.heap.size A hs) (hM : BoolsAt w w.heap.size M mine) :
    Calls Try.prog 24 #[.slice A hs.length cap, .slice M mine.length mc, .int .i64 p] w fun e w' => e = .returned (.int .i64 (pickZ (pz hs) mine p)) ∧ Below w.heap.size w w' := by
  have hmx := hP.most
  unfold maxLen at hmx
  have HP := Lib.hid hP
  have C1 := Lib.hid (sorder_any A cap hs M mc mine w hP hM)
  have HZ0 : Hid ((pz hs).length = hs.length) := pz_length hs
  obtain ⟨n, HN⟩ : ∃ n, Hid (hs.length = n) := ⟨_, rfl⟩
  obtain ⟨m, HM⟩ : ∃ m, Hid (mine.length = m) := ⟨_, rfl⟩
  obtain ⟨ks, HK⟩ : ∃ ks, Hid (orderN (pz hs) mine = ks) := ⟨_, rfl⟩
  obtain ⟨L, HL⟩ : ∃ L, Hid (ks.length = L) := ⟨_, rfl⟩
  have HNL : Hid ((natZ ks).length = L) := by show _ = _; rw [natZ_length]; exact HL.out
  rw [HN.out] at hmx HZ0 C1 ⊢
  rw [HM.out, HK.out] at C1
  rw [HM.out]
  clear hP hM
  by_cases hr : 0 ≤ p ∧ p ≤ (n : Int) - 1
  · obtain ⟨q, rfl⟩ : ∃ q : Nat, p = (q : Int) := ⟨p.toNat, by omega⟩
    have hqn : q < n := by omega
    have hq0 : (0 : Int) ≤ (q : Int) := by omega
    have hqi : (q : Int) < (n : Int) := by omega
    have HQZ : Hid (q < (pz hs).length) := by show _ < _; rw [HZ0.out]; exact hqn
    have C4 : Hid (∀ W, Calls Try.prog 34 #[.int .i64 (q : Int), .int .i64 0, .int .i64 ((n : Int) - 1)] W fun e w' => e = .returned (.bool true) ∧ w' = W) := fun W => by
      have := in_any (q : Int) 0 ((n : Int) - 1) W; rw [decide_eq_true hr] at this; exact this
    have HBT : Hid (∀ (k : Nat) (W : World), Below w.heap.size w W → Calls Try.prog 40 #[.slice (hth hs q).a (hth hs q).zs.length (hth hs q).c, .int .i64 (k : Int)] W fun e w'' => e = .returned (.bool (bth (pth (pz hs) q) k)) ∧ w'' = W) := fun k W hb => by
      rw [pth_pz]
      exact bat_any _ _ k _ W _ ((HP.out.below hb (Nat.le_refl _)).one q (by rw [HN.out]; exact hqn))
    have HCL : Hid (∀ W : World, Below w.heap.size w W → ∃ b o, A = some ⟨b, o, none⟩ ∧ W.cell? ⟨b, o + q, none⟩ = some (.slice (hth hs q).a (hth hs q).zs.length (hth hs q).c)) := fun W hb => by
      obtain ⟨b, o, h1, _, h2⟩ := (HP.out.below hb (Nat.le_refl _)).cell q (by rw [HN.out]; exact hqn)
      exact ⟨b, o, h1, h2⟩
    obtain ⟨ha, HA⟩ : ∃ x, Hid ((hth hs q).a = x) := ⟨_, rfl⟩
    obtain ⟨hn, HHN⟩ : ∃ x, Hid ((hth hs q).zs.length = x) := ⟨_, rfl⟩
    obtain ⟨hc, HHC⟩ : ∃ x, Hid ((hth hs q).c = x) := ⟨_, rfl⟩
    rw [HA.out, HHN.out, HHC.out] at HBT HCL
    go_enter Try.func24, Try.ntmps24
    go_wp2_with fail
    refine C1.out.mono ?_
    rintro e w1 ⟨X, c, rfl, hO, hb1⟩
    rw [HNL.out]
    have HO := Lib.hid hO
    have HB1 := Lib.hid hb1
    have hLm : L ≤ 9223372036854775807 := by have := hO.le; rw [HNL.out] at this; unfold maxLen at this; omega
    clear hO hb1 C1 hr
    go_wp2
    go_loopw [8] (fun i w' => ∃ (k s : Nat), k ≤ L ∧ i = .int .i64 (k : Int) ∧ w' = w1.drewN s ∧ Hid (∀ x ∈ ks.take k, bth (pth (pz hs) q) x = false)) (fun i _ => L - (intOf i).toNat)
    case atStart => exact ⟨0, 0, Nat.zero_le _, rfl, rfl, fun x hx => by rw [List.take_zero] at hx; cases hx⟩
    case round =>
      obtain ⟨k, s, hk, rfl, rfl, HQ⟩ := hrel
      have HBs : Hid (Below w.heap.size w (w1.drewN s)) := below_drewN HB1.out s
      by_cases hlt : k < L
      · have hki : (k : Int) < (L : Int) := by omega
        have hk0 : (0 : Int) ≤ (k : Int) := by omega
        have HKL : Hid (k < ks.length) := by show _ < _; rw [HL.out]; exact hlt
        obtain ⟨x, HX⟩ : ∃ x, Hid (ks[k]'HKL.out = x) := ⟨_, rfl⟩
        have hkn : k < (natZ ks).length := by rw [HNL.out]; exact hlt
        obtain ⟨b2, o2, rfl, _, hcz⟩ := HO.out.ints (by omega)
        have hck := hcz k hkn
        rw [nth_natZ ks k HKL.out, HX.out] at hck
        obtain ⟨b, o, rfl, hcell⟩ := HCL.out w1 HB1.out
        have C5 : Hid (∀ r, Calls Try.prog 40 #[.slice ha hn hc, .int .i64 (x : Int)] (w1.drewN r) fun e w'' => e = .returned (.bool (bth (pth (pz hs) q) x)) ∧ w'' = w1.drewN r) := fun r => HBT.out x _ (below_drewN HB1.out r)
        clear hkn hcz
        cases hv : bth (pth (pz hs) q) x with
        | true =>
          rw [hv] at C5
          have HE : Hid (pickZ (pz hs) mine (q : Int) = (x : Int)) := by
            refine pickZ_some HQZ.out ?_
            subst HX
            have h1 := HK.out
            subst h1
            exact pick_at HKL.out HQ.out hv
          clear hv
          go_wp2_with fail
          refine (C4.out _).mono ?_
          rintro e w2 ⟨rfl, rfl⟩
          go_wp2_with fail
          go_quiet ((go_at_call 40; refine (C5.out _).mono ?_; rintro e w' ⟨rfl, rfl⟩; exact ⟨rfl, _, rfl⟩))
          go_wp2
          go_ret
          exact ⟨by rw [HE.out]; rfl, below_drewN HB1.out _⟩
        | false =>
          rw [hv] at C5
          have HQ' : Hid (∀ y ∈ ks.take (k + 1), bth (pth (pz hs) q) y = false) := take_next HKL.out HQ.out (by rw [HX.out]; exact hv)
          clear hv
          go_wp2_with fail
          refine (C4.out _).mono ?_
          rintro e w2 ⟨rfl, rfl⟩
          go_wp2_with fail
          go_quiet ((go_at_call 40; refine (C5.out _).mono ?_; rintro e w' ⟨rfl, rfl⟩; exact ⟨rfl, _, rfl⟩))
          go_wp2
          go_roundw
          case rel => exact ⟨k + 1, _, by omega, by go_num, rfl, HQ'⟩
          case measure => simp [intOf]; omega
      · have hkn : k = L := by omega
        subst hkn
        have HE : Hid (pickZ (pz hs) mine (q : Int) = -1) := by
          refine pickZ_none HQZ.out (pick_not fun x hx => HQ.out x ?_)
          rw [← HL.out, List.take_length, ← HK.out]; exact hx
        go_wp2
        go_ret
        exact ⟨by rw [HE.out]; rfl, HBs.out⟩
  · have HE : Hid (pickZ (pz hs) mine p = -1) := pickZ_out (by rw [HZ0.out]; omega)
    have C4 : Hid (∀ W, Calls Try.prog 34 #[.int .i64 p, .int .i64 0, .int .i64 ((n : Int) - 1)] W fun e w' => e = .returned (.bool false) ∧ w' = W) := fun W => by
      have := in_any p 0 ((n : Int) - 1) W; rw [decide_eq_false hr] at this; exact this
    clear hr
    go_enter Try.func24, Try.ntmps24
    go_wp2_with fail
    refine C1.out.mono ?_
    rintro e w1 ⟨X, c, rfl, hO, hb1⟩
    rw [HNL.out]
    have HB1 := Lib.hid hb1
    clear hO hb1 C1
    go_wp2
    go_loopw [8] (fun i w' => i = .int .i64 0 ∧ w' = w1) (fun i _ => 0)
    case atStart => exact ⟨rfl, rfl⟩
    case round =>
      obtain ⟨rfl, rfl⟩ := hrel
      by_cases h0 : 0 < L
      · have h0i : (0 : Int) < (L : Int) := by omega
        go_wp2_with fail
        refine (C4.out _).mono ?_
        rintro e w2 ⟨rfl, rfl⟩
        go_wp2
        go_ret
        exact ⟨by rw [HE.out]; rfl, HB1.out⟩
      · have h00 : L = 0 := by omega
        subst h00
        go_wp2
        go_ret
        exact ⟨by rw [HE.out]; rfl, HB1.out⟩

end Go.Proofs.Ytgjnhfciphiciaa
