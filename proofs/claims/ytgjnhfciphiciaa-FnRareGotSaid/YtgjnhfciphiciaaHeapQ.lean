/- Contracts of heap.Push, heap.Pop and rarest at a heap of blocks. Conditions: the heap lies in memory of the call's own, fewer than a million elements. -/
import Derived.Test.YtgjnhfciphiciaaHeapUp
namespace Go.Proofs.Ytgjnhfciphiciaa
open Go.RowKit
set_option linter.unusedVariables false

theorem kth_snoc (ys : List Nat) (n : Nat) (h : ys.length = n + 1) : ys = ys.take n ++ [kth ys n] := by
  rw [kth_lt ys n (by omega), ← List.take_succ_eq_append_getElem (by omega), List.take_of_length_le (by omega)]
theorem heap_take {ys : List Nat} {n : Nat} (h : heapOK ys n) : heapOK (ys.take n) n := fun k h0 hk => by
  rw [kth_take _ _ _ (by omega), kth_take _ _ _ hk]; exact h k h0 hk
theorem heap_min {xs : List Nat} {n : Nat} (hl : xs.length = n) (h : heapOK xs n) : ∀ y ∈ xs, kth xs 0 ≤ y := fun y hy => by
  obtain ⟨k, hk, rfl⟩ := List.getElem_of_mem hy
  rw [← kth_lt xs k hk]
  exact heap_least h k (by omega)

set_option maxHeartbeats 3000000 in
set_option maxRecDepth 100000 in
theorem push_any (base g cap n : Nat) (A : Option Addr) (xs : List Nat) (x : Nat) (w : World) (hH : Hp w base g A cap xs) (hn : xs.length = n) (hm : n < 999999) (hU : heapOK xs n) :
    Calls Try.prog 45 #[heapV g, .iface 58 (rareV x)] w fun e w' => e = .returned (.tuple #[]) ∧ ∃ b' cap' ys, Hp w' base g (some ⟨b', 0, none⟩) cap' ys ∧ ys.Perm (xs ++ [x]) ∧ heapOK ys (n + 1) ∧ Below base w w' := by
  have C := Lib.hid (hpush_any base g cap n A xs x w hH hn (by omega))
  have HN := Lib.hid hn
  have HU := Lib.hid hU
  have mPush := fun fuel => heap_push fuel (.pointer (some ⟨g, 0, none⟩))
  clear hH hn hU
  go_enter Try.func45, Try.ntmps45
  go_wp2_with fail
  refine C.out.mono ?_
  rintro e w1 ⟨rfl, A', cap', hH1, hb1⟩
  have hl1 : (xs ++ [x]).length = n + 1 := by rw [List.length_append, HN.out]; rfl
  obtain ⟨b, rfl, _, _⟩ := hH1.own.form (by omega)
  have hc1 := hH1.cell
  rw [hl1] at hc1
  have HH1 := Lib.hid hH1
  have HB1 := Lib.hid hb1
  have HL1 := Lib.hid hl1
  have mLen := fun fuel => heap_len fuel g _ w1 hc1
  have hs1 : ((n + 1 : Nat) : Int) - 1 = (n : Int) := by omega
  clear hH1 hb1 C hl1
  go_wp2_with fail
  refine (hlen_any _ _ _ _).mono ?_
  rintro e w2 ⟨rfl, rfl⟩
  have C2 := Lib.hid (up_any base g b cap' (n + 1) n (xs ++ [x]) w2 HH1.out HL1.out (by omega) (by omega) (by have := up_start (x := x) (xs := xs) (by rw [HN.out]; exact HU.out); rw [HN.out] at this; exact this))
  go_wp2_with fail
  refine C2.out.mono ?_
  rintro e w3 ⟨rfl, ys, hH3, hP3, hO3, hb3⟩
  have HH3 := Lib.hid hH3
  have HP3 := Lib.hid hP3
  have HO3 := Lib.hid hO3
  have HB3 : Hid (Below base w w3) := HB1.out.trans hb3
  clear hH3 hP3 hO3 hb3 C2
  go_wp2
  go_end0
  exact ⟨rfl, _, cap', ys, HH3.out, HP3.out, HO3.out, HB3.out⟩

theorem hpopF (base g b cap n : Nat) (xs : List Nat) (w : World) (hH : Hp w base g (some ⟨b, 0, none⟩) cap xs) (hn : xs.length = n + 1) :
    Calls Try.prog 67 #[.pointer (some ⟨g, 0, none⟩)] w fun e w' => e = .returned (.iface 58 (rareV (kth xs n))) ∧ Hp w' base g (some ⟨b, 0, none⟩) cap (xs.take n) ∧ HFr w w' g b := by
  refine (hpop_any base g cap n _ xs w hH hn).mono ?_
  rintro e w' ⟨h1, h2, v, o, rfl⟩
  exact ⟨h1, h2, (HFr.put v).alloc o⟩

set_option maxHeartbeats 3000000 in
set_option maxRecDepth 100000 in
theorem pop_any (base g b cap n : Nat) (xs : List Nat) (w : World) (hH : Hp w base g (some ⟨b, 0, none⟩) cap xs) (hn : xs.length = n + 1) (hm : n < 999999) (hU : heapOK xs (n + 1)) :
    Calls Try.prog 46 #[heapV g] w fun e w' => ∃ x, e = .returned (.iface 58 (rareV x)) ∧ ∃ ys, Hp w' base g (some ⟨b, 0, none⟩) cap ys ∧ (x :: ys).Perm xs ∧ heapOK ys n ∧ (∀ y ∈ xs, x ≤ y) ∧ HFr w w' g b := by
  have hc := hH.cell
  rw [hn] at hc
  have HH := Lib.hid hH
  have HN := Lib.hid hn
  have HU := Lib.hid hU
  have mLen := fun fuel => heap_len fuel g _ w hc
  have mSwap := fun fuel => heap_swap fuel g _ w hc
  have hs1 : ((n + 1 : Nat) : Int) - 1 = (n : Int) := by omega
  have C := Lib.hid (swap_any b cap (n + 1) base xs 0 n w HH.out.own HN.out (by omega) (by omega))
  clear hH hn hU
  go_enter Try.func46, Try.ntmps46
  go_wp2_with fail
  refine (hlen_any _ _ _ _).mono ?_
  rintro e w1 ⟨rfl, rfl⟩
  go_wp2_with fail
  refine C.out.mono ?_
  rintro e w2 ⟨rfl, hO2, hg2⟩
  have h2 := hp_swap HH.out hO2 hg2
  have HH2 := Lib.hid h2.1
  have HB2 : Hid (HFr w1 w2 g b) := HFr.of_grown hg2
  have HL2 : Hid ((swapL xs 0 n).length = n + 1) := by show _ = _; rw [swapL_length]; exact HN.out
  have C2 := Lib.hid (down_any base g b cap (n + 1) n (swapL xs 0 n) w2 HH2.out HL2.out (by omega) (by omega) (down_start HN.out HU.out))
  have HP2 : Hid ((swapL xs 0 n).Perm xs) := swap_perm xs 0 n (by rw [HN.out]; omega) (by rw [HN.out]; omega)
  have HK2 : Hid (kth (swapL xs 0 n) n = kth xs 0) := by
    show _ = _
    rw [kth_swap _ _ _ _ (by rw [HN.out]; omega) (by rw [HN.out]; omega), if_pos rfl]
  clear h2 hO2 hg2 mLen mSwap hc
  go_wp2_with fail
  refine C2.out.mono ?_
  rintro e w3 ⟨r, rfl, ys, hH3, hP3, hO3, hK3, hb3⟩
  have HH3 := Lib.hid hH3
  have HP3 := Lib.hid hP3
  have HO3 := Lib.hid hO3
  have HK3 : Hid (kth ys n = kth xs 0) := hK3.trans HK2.out
  have HB3 : Hid (HFr w1 w3 g b) := HB2.out.trans hb3
  have HL3 : Hid (ys.length = n + 1) := hP3.length_eq.trans HL2.out
  clear hH3 hP3 hO3 hb3 C2 hK3
  have mPop := fun fuel => heap_pop fuel (.pointer (some ⟨g, 0, none⟩))
  have C3 := Lib.hid (hpopF base g b cap n ys w3 HH3.out HL3.out)
  go_wp2_with fail
  refine C3.out.mono ?_
  rintro e w4 ⟨rfl, hH4, hb4⟩
  have HH4 := Lib.hid hH4
  have HB4 : Hid (HFr w1 w4 g b) := HB3.out.trans hb4
  clear hH4 hb4 C3
  go_wp2
  go_ret
  refine ⟨_, rfl, ys.take n, HH4.out, ?_, heap_take HO3.out, ?_, HB4.out⟩
  · have h := kth_snoc ys n HL3.out
    have h2 : (kth ys n :: ys.take n).Perm ys := by
      conv => rhs; rw [h]
      exact List.perm_append_comm (l₁ := [kth ys n])
    exact h2.trans (HP3.out.trans HP2.out)
  · rw [HK3.out]
    exact heap_min HN.out HU.out

theorem rare_block (a b : Int) (w : World) : (Instr.field 58 (.agg #[.int .i64 a, .int .i64 b]) 0).run Try.prog w = .ok (.int .i64 a) w := by
  simp [Instr.field, run_underlying Try.underlying58, part, asAgg, isAgg, run_underlying Try.underlying3]
set_option maxHeartbeats 3000000 in
set_option maxRecDepth 100000 in
theorem rarest_any (base g b cap n : Nat) (xs : List Nat) (w : World) (hH : Hp w base g (some ⟨b, 0, none⟩) cap xs) (hn : xs.length = n + 1) (hm : n < 999999) (hU : heapOK xs (n + 1)) :
    Calls Try.prog 39 #[.pointer (some ⟨g, 0, none⟩)] w fun e w' => ∃ x, e = .returned (.int .i64 (blkZ x)) ∧ ∃ ys, Hp w' base g (some ⟨b, 0, none⟩) cap ys ∧ (x :: ys).Perm xs ∧ heapOK ys n ∧ (∀ y ∈ xs, x ≤ y) ∧ HFr w w' g b := by
  have C := Lib.hid (pop_any base g b cap n xs w hH hn hm hU)
  have hTA := rare_assert
  have hTF := rare_block
  clear hH hn hU
  go_enter Try.func39, Try.ntmps39
  go_wp2_with fail
  refine C.out.mono ?_
  rintro e w1 ⟨x, he, ys, h1, h2, h3, h4, h5⟩
  replace he : e = .returned (.iface 58 (.agg #[.int .i64 (blkZ x), .int .i64 (cntZ x)])) := he
  subst he
  have H := Lib.hid (And.intro h1 (And.intro h2 (And.intro h3 (And.intro h4 h5))))
  clear h1 h2 h3 h4 h5
  go_wp2
  go_ret
  exact ⟨x, rfl, ys, H.out⟩

end Go.Proofs.Ytgjnhfciphiciaa
