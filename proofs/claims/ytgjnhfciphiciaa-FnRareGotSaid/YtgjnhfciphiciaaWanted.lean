/- Contracts of wantedBlocks, RareCount, RareOrder, RarePick and RareWhole. Conditions: the bits lie in memory. -/
import Derived.Test.YtgjnhfciphiciaaPeersOk
namespace Go.Proofs.Ytgjnhfciphiciaa
open Go.RowKit
set_option linter.unusedVariables false

theorem key_blk (c b : Nat) (hb : b < 16) : blkZ (c * 16 + b) = (b : Int) := by unfold blkZ; omega
theorem key_cnt (c b : Nat) (hb : b < 16) : cntZ (c * 16 + b) = (c : Int) := by unfold cntZ; omega
/-- A new heap. -/
theorem hp_new (w : World) : Hp ((w.alloc (.cells #[] 58)).alloc (.cells #[.slice (some ⟨w.heap.size, 0, none⟩) 0 0] 55)) w.heap.size (w.heap.size + 1) (some ⟨w.heap.size, 0, none⟩) 0 [] := by
  have h := Blk.new (w.alloc (.cells #[] 58)) 55 #[.slice (some ⟨w.heap.size, 0, none⟩) 0 0]
  rw [World.size_alloc] at h
  exact ⟨h, (OwnRow.new HK w).alloc _, by omega⟩
/-- The heap that wantedBlocks hands back. -/
def WantedRet (w : World) (ps : List (List Bool)) (mine : List Bool) (e : Ending) (w' : World) : Prop :=
  ∃ g b cap xs, e = .returned (.pointer (some ⟨g, 0, none⟩)) ∧ Hp w' w.heap.size g (some ⟨b, 0, none⟩) cap xs ∧ heapOK xs xs.length ∧ xs.length ≤ 16 ∧ xs.Perm (if okP ps = true ∧ mine.length ≤ 16 then wantK ps mine 16 else []) ∧ Below w.heap.size w w'

set_option maxHeartbeats 3000000 in
set_option maxRecDepth 100000 in
theorem wanted_any (A : Option Addr) (cap : Nat) (hs : List PH) (M : Option Addr) (mc : Nat) (mine : List Bool) (w : World) (hP : PAt w w.heap.size A hs) (hM : BoolsAt w w.heap.size M mine) :
    Calls Try.prog 37 #[.slice A hs.length cap, .slice M mine.length mc] w (WantedRet w (pz hs) mine) := by
  have HP := Lib.hid hP
  have HM := Lib.hid hM
  have HH0 := Lib.hid (hp_new w)
  have HB0 : Hid (Below w.heap.size w ((w.alloc (.cells #[] 58)).alloc (.cells #[.slice (some ⟨w.heap.size, 0, none⟩) 0 0] 55))) := ((Below.refl _ w).alloc (Nat.le_refl _) _).alloc (by simp) _
  have C1 := Lib.hid (peersValid_any A cap hs _ _ ((HP.out.below HB0.out (Nat.le_refl _))))
  have HC3 : Hid (∀ (k : Nat) (w' : World), Below w.heap.size w w' → Calls Try.prog 32 #[.slice A hs.length cap, .int .i64 (k : Int)] w' fun e w'' => e = .returned (.int .i64 ((cntB (pz hs) k : Nat) : Int)) ∧ w'' = w') := fun k w' hb => having_any A cap k hs w' _ (HP.out.below hb (Nat.le_refl _))
  have HC4 : Hid (∀ (k : Nat) (w' : World), Below w.heap.size w w' → Calls Try.prog 41 #[.slice M mine.length mc, .int .i64 (k : Int)] w' fun e w'' => e = .returned (.bool (bth mine k)) ∧ w'' = w') := fun k w' hb => bitSet_any M mc k mine w' _ (HM.out.below hb (Nat.le_refl _))
  obtain ⟨m, HMN⟩ : ∃ m, Hid (mine.length = m) := ⟨_, rfl⟩
  obtain ⟨n, HN⟩ : ∃ n, Hid (hs.length = n) := ⟨_, rfl⟩
  rw [HN.out] at C1 HC3 ⊢
  rw [HMN.out] at HC4 ⊢
  clear hP hM
  have C2 := fun w' => bitsValid_any M m mc w'
  cases hok : okP (pz hs) with
  | false =>
    rw [hok] at C1
    have HR : Hid ([].Perm (if okP (pz hs) = true ∧ mine.length ≤ 16 then wantK (pz hs) mine 16 else [])) := by
      show List.Perm _ _
      rw [if_neg (by rw [hok]; exact fun h => by cases h.1)]
    clear hok
    go_enter Try.func37, Try.ntmps37
    go_wp2_with fail
    refine C1.out.mono ?_
    rintro e w1 ⟨rfl, rfl⟩
    go_wp2
    go_ret
    exact ⟨_, _, _, [], rfl, HH0.out, fun k h0 hk => absurd hk (by simp), by simp, HR.out, HB0.out⟩
  | true =>
    rw [hok] at C1
    cases hmv : decide (m ≤ 16) with
    | false =>
      have HR : Hid ([].Perm (if okP (pz hs) = true ∧ mine.length ≤ 16 then wantK (pz hs) mine 16 else [])) := by
        show List.Perm _ _
        rw [if_neg (by rw [HMN.out]; exact fun h => of_decide_eq_false hmv h.2)]
      rw [hmv] at C2
      clear hok hmv
      go_enter Try.func37, Try.ntmps37
      go_wp2_with fail
      refine C1.out.mono ?_
      rintro e w1 ⟨rfl, rfl⟩
      go_wp2_with fail
      refine (C2 _).mono ?_
      rintro e w1 ⟨rfl, rfl⟩
      go_wp2
      go_ret
      exact ⟨_, _, _, [], rfl, HH0.out, fun k h0 hk => absurd hk (by simp), by simp, HR.out, HB0.out⟩
    | true =>
      have HR : Hid ((if okP (pz hs) = true ∧ mine.length ≤ 16 then wantK (pz hs) mine 16 else []) = wantK (pz hs) mine 16) := by
        show _ = _
        rw [if_pos ⟨hok, by rw [HMN.out]; exact of_decide_eq_true hmv⟩]
      rw [hmv] at C2
      clear hok hmv
      go_enter Try.func37, Try.ntmps37
      go_wp2_with fail
      refine C1.out.mono ?_
      rintro e w1 ⟨rfl, rfl⟩
      go_wp2_with fail
      refine (C2 _).mono ?_
      rintro e w1 ⟨rfl, rfl⟩
      go_wp2
      go_loopw [19] (fun i w' => ∃ (k b' cap' : Nat) (xs : List Nat), k ≤ 16 ∧ i = .int .i64 k ∧ Hid (Hp w' w.heap.size (w.heap.size + 1) (some ⟨b', 0, none⟩) cap' xs) ∧ Hid (heapOK xs xs.length) ∧ Hid (xs.Perm (wantK (pz hs) mine k)) ∧ Hid (Below w.heap.size w w')) (fun i _ => 16 - (intOf i).toNat)
      case atStart => exact ⟨0, _, _, [], by omega, rfl, HH0, (fun k h0 hk => absurd hk (by simp)), List.Perm.refl _, HB0⟩
      case round =>
        obtain ⟨k, b', cap', xs, hk, rfl, HH, HO, HPP, HB⟩ := hrel
        by_cases hlt : k < 16
        · have hki : (k : Int) < 16 := by omega
          obtain ⟨l, HL⟩ : ∃ l, Hid (xs.length = l) := ⟨_, rfl⟩
          have hl : l ≤ k := by rw [← HL.out, HPP.out.length_eq]; exact wantK_len _ _ _
          obtain ⟨c, HCN⟩ : ∃ c, Hid (cntB (pz hs) k = c) := ⟨_, rfl⟩
          have C3 := Lib.hid (HC3.out k wr HB.out)
          have C4 := Lib.hid (HC4.out k wr HB.out)
          rw [HCN.out] at C3
          have HKY : Hid (keyOf (pz hs) k = c * 16 + k) := by show _ = _; unfold keyOf; rw [HCN.out]
          have C5 := Lib.hid (push_any w.heap.size (w.heap.size + 1) cap' l _ xs (c * 16 + k) wr HH.out HL.out (by omega) (by have := HO.out; rw [HL.out] at this; exact this))
          have HV : Hid (rareV (c * 16 + k) = .agg #[.int .i64 (k : Int), .int .i64 (c : Int)]) := by
            show Value.agg #[.int .i64 (blkZ _), .int .i64 (cntZ _)] = _
            rw [key_blk c k hlt, key_cnt c k hlt]
          rw [HV.out] at C5
          by_cases hc : 0 < c
          · have hci : (0 : Int) < (c : Int) := by omega
            cases hmk : bth mine k with
            | true =>
              rw [hmk] at C4
              have HWN : Hid (wantK (pz hs) mine (k + 1) = wantK (pz hs) mine k) := wantK_no (by unfold wantB; rw [hmk]; simp)
              clear hmk
              go_wp2_with fail
              refine C3.out.mono ?_
              rintro e w3 ⟨rfl, rfl⟩
              go_wp2_with fail
              refine C4.out.mono ?_
              rintro e w3 ⟨rfl, rfl⟩
              clear C3 C4 C5
              go_wp2
              go_roundw
              case rel => exact ⟨k + 1, b', cap', xs, by omega, by go_num, HH, HO, (show Hid _ from by show List.Perm _ _; rw [HWN.out]; exact HPP.out), HB⟩
              case measure => simp [intOf]; omega
            | false =>
              rw [hmk] at C4
              have HWY : Hid (wantK (pz hs) mine (k + 1) = wantK (pz hs) mine k ++ [c * 16 + k]) := by
                show _ = _
                rw [wantK_yes (by unfold wantB; rw [hmk, HCN.out, decide_eq_true hc]; rfl), HKY.out]
              clear hmk
              go_wp2_with fail
              refine C3.out.mono ?_
              rintro e w3 ⟨rfl, rfl⟩
              go_wp2_with fail
              refine C4.out.mono ?_
              rintro e w3 ⟨rfl, rfl⟩
              go_wp2_with fail
              refine C5.out.mono ?_
              rintro e w4 ⟨rfl, b2, cap2, ys, hH4, hP4, hO4, hb4⟩
              have hl4 : ys.length = l + 1 := by rw [hP4.length_eq, List.length_append, HL.out]; rfl
              have HH4 := Lib.hid hH4
              have HP4 : Hid (ys.Perm (wantK (pz hs) mine (k + 1))) := by
                show List.Perm _ _
                rw [HWY.out]
                exact hP4.trans (HPP.out.append_right _)
              have HO4 : Hid (heapOK ys ys.length) := by show heapOK _ _; rw [hl4]; exact hO4
              have HB4 : Hid (Below w.heap.size w w4) := HB.out.trans hb4
              clear C3 C4 C5 hH4 hP4 hO4 hb4 hl4
              go_wp2
              go_roundw
              case rel => exact ⟨k + 1, b2, cap2, ys, by omega, by go_num, HH4, HO4, HP4, HB4⟩
              case measure => simp [intOf]; omega
          · have hci : ¬ (0 : Int) < (c : Int) := by omega
            have HWN : Hid (wantK (pz hs) mine (k + 1) = wantK (pz hs) mine k) := wantK_no (by unfold wantB; rw [HCN.out, decide_eq_false hc]; rfl)
            go_wp2_with fail
            refine C3.out.mono ?_
            rintro e w3 ⟨rfl, rfl⟩
            clear C3 C4 C5
            go_wp2
            go_roundw
            case rel => exact ⟨k + 1, b', cap', xs, by omega, by go_num, HH, HO, (show Hid _ from by show List.Perm _ _; rw [HWN.out]; exact HPP.out), HB⟩
            case measure => simp [intOf]; omega
        · have hk16 : k = 16 := by omega
          subst hk16
          go_wp2
          go_ret
          exact ⟨_, b', cap', xs, rfl, HH.out, HO.out, by rw [HPP.out.length_eq]; exact wantK_len _ _ _, by rw [HR.out]; exact HPP.out, HB.out⟩

end Go.Proofs.Ytgjnhfciphiciaa
