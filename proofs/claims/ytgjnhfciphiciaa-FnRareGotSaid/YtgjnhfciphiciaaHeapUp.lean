/- Contracts of heap.up, heap.down, heap.Push, heap.Pop and rarest at a heap of blocks. Conditions: the heap lies in memory of the call's own, fewer than a million elements. -/
import Derived.Test.YtgjnhfciphiciaaHeapMath
import Derived.Deep.LoopGhost
namespace Go.Proofs.Ytgjnhfciphiciaa
open Go.RowKit
set_option linter.unusedVariables false

theorem hp_swap {w w' : World} {base g b cap i j : Nat} {xs : List Nat} (h : Hp w base g (some ⟨b, 0, none⟩) cap xs) (ho : OwnRow HK w' base (some ⟨b, 0, none⟩) cap (swapL xs i j)) (hg : w.grownBy w' (some b)) :
    Hp w' base g (some ⟨b, 0, none⟩) cap (swapL xs i j) ∧ Below base w w' := by
  have hne : some g ≠ some b := fun e => h.apart (by injection e with e; rw [e]; rfl)
  refine ⟨⟨by rw [swapL_length]; exact h.blk.grown hg hne, ho, h.le⟩, (Below.refl _ _).grown hg h.lt fun k hk => ?_⟩
  injection hk with hk
  subst hk
  exact (h.own.lies _ rfl).1
/-- Nothing that was there is changed but the heap's cell and its row. -/
def HFr (w w' : World) (g b : Nat) : Prop := Below 0 w w' ∧ ∀ i, i < w.heap.size → i ≠ g → i ≠ b → w'.heap[i]? = w.heap[i]?
section
variable {w w' w'' : World} {g b base : Nat}
theorem HFr.refl (w : World) (g b : Nat) : HFr w w g b := ⟨Below.refl _ _, fun _ _ _ _ => rfl⟩
theorem HFr.trans (h : HFr w w' g b) (k : HFr w' w'' g b) : HFr w w'' g b := ⟨h.1.trans k.1, fun i hi hg hb => (k.2 i (by have := h.1.size; omega) hg hb).trans (h.2 i hi hg hb)⟩
theorem HFr.of_below (h : Below w.heap.size w w') : HFr w w' g b := ⟨h.mono (Nat.zero_le _), fun i hi _ _ => h.block i hi⟩
theorem HFr.of_grown (h : w.grownBy w' (some b)) : HFr w w' g b := ⟨(Below.refl _ _).grown h (Nat.zero_le _) (fun _ _ => Nat.zero_le _), fun i hi _ hb => h.block i hi (fun e => hb (by injection e))⟩
theorem HFr.below (h : HFr w w' g b) (hg : base ≤ g) (hb : base ≤ b) (hw : base ≤ w.heap.size) : Below base w w' := ⟨h.1.os, h.1.tape, h.1.output, h.1.size, fun i hi => h.2 i (by omega) (by omega) (by omega)⟩
theorem HFr.put (v : Value) : HFr w (w.setCell ⟨g, 0, none⟩ v) g b := ⟨(Below.refl 0 w).setCell (p := ⟨g, 0, none⟩) (Nat.zero_le _) v, fun i _ hg _ => Below.heap_setCell _ _ _ _ hg⟩
theorem HFr.alloc (h : HFr w w' g b) (o : Obj) : HFr w (w'.alloc o) g b := h.trans (HFr.of_below ((Below.refl _ _).alloc (Nat.le_refl _) o))
end
abbrev heapV (g : Nat) : Value := .iface 46 (.pointer (some ⟨g, 0, none⟩))

set_option maxHeartbeats 3000000 in
set_option maxRecDepth 100000 in
theorem up_any (base g b cap n j : Nat) (xs : List Nat) (w : World) (hH : Hp w base g (some ⟨b, 0, none⟩) cap xs) (hn : xs.length = n) (hj : j < n) (hm : n < 1000000) (hU : upOK xs j) :
    Calls Try.prog 48 #[heapV g, .int .i64 (j : Int)] w fun e w' => e = .returned (.tuple #[]) ∧ ∃ ys, Hp w' base g (some ⟨b, 0, none⟩) cap ys ∧ ys.Perm xs ∧ heapOK ys n ∧ Below base w w' := by
  have HH := Lib.hid hH
  have HN := Lib.hid hn
  have HU := Lib.hid hU
  clear hH hn hU
  go_enter Try.func48, Try.ntmps48
  go_wp2
  go_loopw [1] (fun x w' => ∃ (q : Nat) (ys : List Nat), x = .int .i64 q ∧ q < n ∧ Hid (ys.length = n) ∧ Hid (Hp w' base g (some ⟨b, 0, none⟩) cap ys) ∧ Hid (upOK ys q) ∧ Hid (ys.Perm xs) ∧ Hid (Below base w w')) (fun x _ => (intOf x).toNat)
  case atStart => exact ⟨j, xs, rfl, hj, HN, HH, HU, List.Perm.refl _, Below.refl _ _⟩
  case round =>
    obtain ⟨q, ys, rfl, hq, HL, HY, HO, HP, HB⟩ := hrel
    by_cases h0 : q = 0
    · subst h0
      go_wp2
      go_end0
      exact ⟨rfl, ys, HY.out, HP.out, by have := up_zero HO.out; rw [HL.out] at this; exact this, HB.out⟩
    · obtain ⟨i, HI⟩ : ∃ i, Hid (i = (q - 1) / 2) := ⟨_, rfl⟩
      have hiq : i < q := by have := HI.out; omega
      have hd : ((q : Int) - 1).tdiv 2 = (i : Int) := by
        rw [Int.tdiv_eq_ediv_of_nonneg (by omega)]
        have := HI.out; omega
      have hne : ((i : Int) == (q : Int)) = false := beq_eq_false_iff_ne.2 (by omega)
      have hc := HY.out.cell
      rw [HL.out] at hc
      have mLess := fun fuel => heap_less fuel g _ wr hc
      have C := Lib.hid (less_any b 0 cap n ys q i wr HY.out.own.at_ HL.out hq (by omega))
      cases hlt : decide (kth ys q < kth ys i) with
      | false =>
        rw [hlt] at C
        have HLT := Lib.hid (of_decide_eq_false hlt)
        clear hlt
        go_wp2_with fail
        refine C.out.mono ?_
        rintro e w1 ⟨rfl, hb1⟩
        have HY1 := Lib.hid (HY.out.below hb1)
        have HB1 : Hid (Below base w w1) := HB.out.trans (hb1.mono HY.out.lt)
        clear hb1 mLess
        go_wp2
        go_end0
        exact ⟨rfl, ys, HY1.out, HP.out, by have := up_stop HO.out (by rw [← HI.out]; exact HLT.out); rw [HL.out] at this; exact this, HB1.out⟩
      | true =>
        rw [hlt] at C
        have HLT := Lib.hid (of_decide_eq_true hlt)
        clear hlt
        go_wp2_with fail
        refine C.out.mono ?_
        rintro e w1 ⟨rfl, hb1⟩
        have HY1 := Lib.hid (HY.out.below hb1)
        have HB1 : Hid (Below base w w1) := HB.out.trans (hb1.mono HY.out.lt)
        clear hb1 mLess hc
        have hc1 := HY1.out.cell
        rw [HL.out] at hc1
        have mSwap := fun fuel => heap_swap fuel g _ w1 hc1
        have C2 := Lib.hid (swap_any b cap n base ys i q w1 HY1.out.own HL.out (by omega) hq)
        go_wp2_with fail
        refine C2.out.mono ?_
        rintro e w2 ⟨rfl, hO2, hg2⟩
        have h2 := hp_swap HY1.out hO2 hg2
        have HY2 := Lib.hid h2.1
        have HB2 : Hid (Below base w w2) := HB1.out.trans h2.2
        have HL2 : Hid ((swapL ys i q).length = n) := by show _ = _; rw [swapL_length]; exact HL.out
        have HO2 : Hid (upOK (swapL ys i q) i) := up_step HO.out HI.out (by rw [HL.out]; exact hq) (by omega) HLT.out
        have HP2 : Hid ((swapL ys i q).Perm xs) := (swap_perm ys i q (by rw [HL.out]; omega) (by rw [HL.out]; exact hq)).trans HP.out
        clear h2 hO2 hg2 mSwap hc1 C C2
        go_wp2
        go_roundw
        case rel => exact ⟨i, swapL ys i q, rfl, by omega, HL2, HY2, HO2, HP2, HB2⟩
        case measure => simp [intOf]; omega

/-- A child that is not greater than the other one. -/
theorem child_min {ys : List Nat} {i j n : Nat} (hj : j = 2 * i + 1 ∨ j = 2 * i + 2) (h : ∀ k, k < n → k = 2 * i + 1 ∨ k = 2 * i + 2 → kth ys j ≤ kth ys k) : ∀ k, k < n → 0 < k → (k - 1) / 2 = i → kth ys j ≤ kth ys k := fun k hk h0 he => h k hk (by omega)

set_option maxHeartbeats 3000000 in
set_option maxRecDepth 100000 in
theorem down_any (base g b cap l n : Nat) (xs : List Nat) (w : World) (hH : Hp w base g (some ⟨b, 0, none⟩) cap xs) (hl : xs.length = l) (hn : n < l) (hm : l < 1000000) (hU : downOK xs 0 n) :
    Calls Try.prog 49 #[heapV g, .int .i64 0, .int .i64 (n : Int)] w fun e w' => ∃ r, e = .returned (.bool r) ∧ ∃ ys, Hp w' base g (some ⟨b, 0, none⟩) cap ys ∧ ys.Perm xs ∧ heapOK ys n ∧ kth ys n = kth xs n ∧ HFr w w' g b := by
  have HH := Lib.hid hH
  have HN := Lib.hid hl
  have HU := Lib.hid hU
  clear hH hl hU
  go_enter Try.func49, Try.ntmps49
  go_wp2
  go_loopw [7] (fun x w' => ∃ (q : Nat) (ys : List Nat), x = .int .i64 q ∧ q < l ∧ Hid (ys.length = l) ∧ Hid (Hp w' base g (some ⟨b, 0, none⟩) cap ys) ∧ Hid (downOK ys q n) ∧ Hid (ys.Perm xs) ∧ Hid (kth ys n = kth xs n) ∧ Hid (HFr w w' g b)) (fun x _ => l - (intOf x).toNat)
  case atStart => exact ⟨0, xs, rfl, by omega, HN, HH, HU, List.Perm.refl _, rfl, HFr.refl _ _ _⟩
  case round =>
    obtain ⟨q, ys, rfl, hq, HL, HY, HO, HP, HK, HB⟩ := hrel
    by_cases h0 : n ≤ 2 * q + 1
    · have hge : (n : Int) ≤ 2 * (q : Int) + 1 := by omega
      go_wp2
      go_ret
      exact ⟨_, rfl, ys, HY.out, HP.out, down_leaf HO.out h0, HK.out, HB.out⟩
    · have hlt1 : ¬ (n : Int) ≤ 2 * (q : Int) + 1 := by omega
      have hge0 : ¬ 2 * (q : Int) + 1 < 0 := by omega
      have hc := HY.out.cell
      rw [HL.out] at hc
      have mLess := fun fuel => heap_less fuel g _ wr hc
      go_upto_region 6 with fail
      go_cut [33] (fun s33 wx => ∃ r : Bool, s33 = .bool r ∧ Hid (if r = true then 2 * q + 2 < n ∧ kth ys (2 * q + 2) < kth ys (2 * q + 1) else (2 * q + 2 < n → ¬ kth ys (2 * q + 2) < kth ys (2 * q + 1))) ∧ Hid (Hp wx base g (some ⟨b, 0, none⟩) cap ys) ∧ Hid (HFr w wx g b))
      case first =>
        by_cases h2 : 2 * q + 2 < n
        · have hj1 : 2 * (q : Int) + 1 = ((2 * q + 1 : Nat) : Int) := by omega
          have hj2 : 2 * (q : Int) + 1 + 1 = ((2 * q + 2 : Nat) : Int) := by omega
          have hlt2 : 2 * (q : Int) + 1 + 1 < (n : Int) := by omega
          have C := Lib.hid (less_any b 0 cap l ys (2 * q + 2) (2 * q + 1) wr HY.out.own.at_ HL.out (by omega) (by omega))
          cases hlt : decide (kth ys (2 * q + 2) < kth ys (2 * q + 1)) with
          | false =>
            rw [hlt, ← hj1, ← hj2] at C
            have HLT := Lib.hid (of_decide_eq_false hlt)
            clear hlt hj1 hj2
            go_wp2_with fail
            refine C.out.mono ?_
            rintro e w1 ⟨rfl, hb1⟩
            have HY1 := Lib.hid (HY.out.below hb1)
            have HB1 : Hid (HFr w w1 g b) := HB.out.trans (HFr.of_below hb1)
            clear hb1 mLess
            go_wp2
            go_meet
            exact ⟨false, rfl, (show Hid _ from by show (if _ then _ else _); rw [if_neg (by decide)]; exact fun _ => HLT.out), HY1, HB1⟩
          | true =>
            rw [hlt, ← hj1, ← hj2] at C
            have HLT := Lib.hid (of_decide_eq_true hlt)
            clear hlt hj1 hj2
            go_wp2_with fail
            refine C.out.mono ?_
            rintro e w1 ⟨rfl, hb1⟩
            have HY1 := Lib.hid (HY.out.below hb1)
            have HB1 : Hid (HFr w w1 g b) := HB.out.trans (HFr.of_below hb1)
            clear hb1 mLess
            go_wp2
            go_meet
            exact ⟨true, rfl, (show Hid _ from by show (if _ then _ else _); rw [if_pos rfl]; exact ⟨h2, HLT.out⟩), HY1, HB1⟩
        · have hlt2 : ¬ 2 * (q : Int) + 1 + 1 < (n : Int) := by omega
          go_wp2
          go_meet
          exact ⟨false, rfl, (show Hid _ from by show (if _ then _ else _); rw [if_neg (by decide)]; exact fun h => absurd h h2), HY, HB⟩
      case rest =>
      obtain ⟨r, rfl, HR, HYa, HBa⟩ := hcut
      obtain ⟨wa, hwa⟩ : ∃ y, y = wc := ⟨_, rfl⟩
      subst hwa
      go_upto_if 33 with fail
      go_cut [9] (fun s9 wx => ∃ jj : Nat, s9 = .int .i64 (jj : Int) ∧ jj < n ∧ q < jj ∧ Hid ((jj - 1) / 2 = q) ∧ Hid (∀ k, k < n → 0 < k → (k - 1) / 2 = q → kth ys jj ≤ kth ys k) ∧ Hid (Hp wx base g (some ⟨b, 0, none⟩) cap ys) ∧ Hid (HFr w wx g b))
      case first =>
        cases r with
        | true =>
          have hh : 2 * q + 2 < n ∧ kth ys (2 * q + 2) < kth ys (2 * q + 1) := by have := HR.out; rw [if_pos rfl] at this; exact this
          have H1 := Lib.hid hh.1
          have H2 := Lib.hid hh.2
          clear hh
          go_wp2
          go_meet
          exact ⟨2 * q + 2, by push_cast; rfl, by have := H1.out; omega, by omega, (show Hid _ from by show _ = _; omega), (show Hid _ from child_min (.inr rfl) (fun k hk hx => by rcases hx with rfl | rfl; exact Nat.le_of_lt H2.out; exact Nat.le_refl _)), HYa, HBa⟩
        | false =>
          have hh : 2 * q + 2 < n → ¬ kth ys (2 * q + 2) < kth ys (2 * q + 1) := by have := HR.out; rw [if_neg (by decide)] at this; exact this
          have H1 := Lib.hid hh
          clear hh
          go_wp2
          go_meet
          exact ⟨2 * q + 1, by push_cast; rfl, by omega, by omega, (show Hid _ from by show _ = _; omega), (show Hid _ from child_min (.inl rfl) (fun k hk hx => by rcases hx with rfl | rfl; exact Nat.le_refl _; exact Nat.le_of_not_lt (H1.out hk))), HYa, HBa⟩
      case rest =>
      obtain ⟨jj, rfl, hjn, hqj, HJ, HMN, HY1, HB1⟩ := hcut
      clear hc mLess
      have hc := HY1.out.cell
      rw [HL.out] at hc
      have mLess := fun fuel => heap_less fuel g _ wc hc
      have C := Lib.hid (less_any b 0 cap l ys jj q wc HY1.out.own.at_ HL.out (by omega) hq)
      cases hlt : decide (kth ys jj < kth ys q) with
      | false =>
        rw [hlt] at C
        have HLT := Lib.hid (of_decide_eq_false hlt)
        clear hlt
        go_wp2_with fail
        refine C.out.mono ?_
        rintro e w2 ⟨rfl, hb2⟩
        have HY2 := Lib.hid (HY1.out.below hb2)
        have HB2 : Hid (HFr w w2 g b) := HB1.out.trans (HFr.of_below hb2)
        clear hb2 mLess
        go_wp2
        go_ret
        exact ⟨_, rfl, ys, HY2.out, HP.out, down_stop HO.out HMN.out HLT.out, HK.out, HB2.out⟩
      | true =>
        rw [hlt] at C
        have HLT := Lib.hid (of_decide_eq_true hlt)
        clear hlt
        go_wp2_with fail
        refine C.out.mono ?_
        rintro e w2 ⟨rfl, hb2⟩
        have HY2 := Lib.hid (HY1.out.below hb2)
        have HB2 : Hid (HFr w w2 g b) := HB1.out.trans (HFr.of_below hb2)
        clear hb2 mLess hc
        have hc2 := HY2.out.cell
        rw [HL.out] at hc2
        have mSwap := fun fuel => heap_swap fuel g _ w2 hc2
        have C2 := Lib.hid (swap_any b cap l base ys q jj w2 HY2.out.own HL.out hq (by omega))
        go_wp2_with fail
        refine C2.out.mono ?_
        rintro e w3 ⟨rfl, hO3, hg3⟩
        have h3 := hp_swap HY2.out hO3 hg3
        have HY3 := Lib.hid h3.1
        have HB3 : Hid (HFr w w3 g b) := HB2.out.trans (HFr.of_grown hg3)
        have HL3 : Hid ((swapL ys q jj).length = l) := by show _ = _; rw [swapL_length]; exact HL.out
        have HO3 : Hid (downOK (swapL ys q jj) jj n) := down_step HO.out (by omega) HJ.out hjn (by rw [HL.out]; omega) HMN.out HLT.out
        have HP3 : Hid ((swapL ys q jj).Perm xs) := (swap_perm ys q jj (by rw [HL.out]; exact hq) (by rw [HL.out]; omega)).trans HP.out
        have HK3 : Hid (kth (swapL ys q jj) n = kth xs n) := (swap_take (n := n) (by omega) hjn (by rw [HL.out]; omega) n (Nat.le_refl _)).trans HK.out
        clear h3 hO3 hg3 mSwap hc2 C C2
        go_wp2
        go_roundw
        case rel => exact ⟨jj, swapL ys q jj, rfl, by omega, HL3, HY3, HO3, HP3, HK3, HB3⟩
        case measure => simp [intOf]; omega

end Go.Proofs.Ytgjnhfciphiciaa
