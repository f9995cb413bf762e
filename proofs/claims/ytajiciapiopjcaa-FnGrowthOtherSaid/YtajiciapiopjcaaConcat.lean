/- Contracts of the library's Grow at a nil slice and Concat of two slices, at integers: their numbers one behind the other in memory of the call's own. Conditions: the lengths are at most 1000. -/
import Derived.Test.YtajiciapiopjcaaZeros
import Derived.Test.YtajiciapiopjcaaPeakLaws
namespace Go.Proofs.Ytajiciapiopjcaa
open Go.RowKit
set_option linter.unusedVariables false

theorem OwnInts.cut {w : World} {base g c : Nat} {zs : List Int} (h : OwnInts w base (some ⟨g, 0, none⟩) c zs) (k : Nat) (hk : k ≤ zs.length) : OwnInts w base (some ⟨g, 0, none⟩) c (zs.take k) := by
  have hl : (zs.take k).length = k := by rw [List.length_take]; omega
  rcases h.2 with ⟨hv, _⟩ | ⟨g', c', cur, hv, hb, hg, hn, hm, hs, ht⟩
  · injection hv with hA _ _; cases hA
  · injection hv with hA _ hc
    injection hA with hA
    injection hA with hA _ _
    subst hA hc
    refine ⟨by rw [vals_length]; omega, .inr ⟨g, c, cur, rfl, hb, hg, by omega, hm, hs, ?_⟩⟩
    rw [hl, Nat.mul_one]
    rw [Nat.mul_one] at ht
    have e : vals (zs.take k) = (vals zs).take k := by unfold vals; rw [List.map_take]
    rw [e, ← ht, List.take_take, Nat.min_eq_left hk]

set_option maxHeartbeats 1000000 in
theorem grow_nil (n : Nat) (w : World) (hn : n ≤ 1000) :
    Calls Try.prog 56 #[.slice none 0 0, .int .i64 (n : Int)] w (RetInts w []) := by
  by_cases h0 : n = 0
  · subst h0
    go_enter Try.func56, Try.ntmps56
    go_wp2
    go_ret
    exact ⟨none, 0, rfl, World.ownsRow_nil _ _ _ _, Below.refl _ _⟩
  · have hn1 : ¬ ((n : Int) < 0) := by omega
    have hn2 : 0 < n := by omega
    have hn3 : (0 : Int) < (n : Int) := by omega
    have hnil : OwnInts w w.heap.size none 0 [] := World.ownsRow_nil _ _ _ _
    have HNIL := Lib.hid hnil
    clear hnil h0
    go_enter Try.func56, Try.ntmps56
    go_wp2_with (at_builtin; refine wpList_app_zeros rfl (.tmp 20) (.tmp 21) rfl _ w.heap.size none 0 [] rfl n hn2 rfl HNIL.out (by simp; omega) (Nat.le_refl _) ?_; intro v w3 hA; rw [List.nil_append] at hA; obtain ⟨⟨A3, c3, rfl, hown3⟩, hg3, hb3⟩ := hA; obtain ⟨g, hA3⟩ : ∃ g, A3 = some ⟨g, 0, none⟩ := (by obtain ⟨g, c, hv, _, _⟩ := World.ownsRow.form hown3 (by rw [zerosZ_length]; exact hn2); injection hv with hA _ _; exact ⟨g, hA⟩); subst hA3; have HO3 := Lib.hid (hown3.cut 0 (by omega)); have HB3 := Lib.hid hb3; rw [zerosZ_length]; clear hown3 hg3 hb3)
    go_ret
    exact ⟨_, c3, rfl, HO3.out, HB3.out⟩

set_option maxHeartbeats 2000000 in
theorem concat_two (A1 : Option Addr) (c1 : Nat) (xs : List Int) (A2 : Option Addr) (c2 : Nat) (ys : List Int) (g : Nat) (w : World) (h1 : IntsAt w w.heap.size A1 xs) (h2 : IntsAt w w.heap.size A2 ys) (hz1 : A1 = none → c1 = 0) (hz2 : A2 = none → c2 = 0) (hm1 : xs.length ≤ 400) (hm2 : ys.length ≤ 400)
    (hg0 : w.cell? ⟨g, 0, none⟩ = some (.slice A1 xs.length c1)) (hg1 : w.cell? ⟨g, 1, none⟩ = some (.slice A2 ys.length c2)) :
    Calls Try.prog 40 #[.slice (some ⟨g, 0, none⟩) 2 2] w (RetInts w (xs ++ ys)) := by
  have H1 := Lib.hid h1
  have H2 := Lib.hid h2
  have HZ1 := Lib.hid hz1
  have HZ2 := Lib.hid hz2
  have hgl := World.block_lt_of_cell? w _ hg0
  obtain ⟨n1, HN1⟩ : ∃ n, Hid (xs.length = n) := ⟨_, rfl⟩
  obtain ⟨n2, HN2⟩ : ∃ n, Hid (ys.length = n) := ⟨_, rfl⟩
  rw [HN1.out] at hm1 hg0
  rw [HN2.out] at hm2 hg1
  have HG0 := Lib.hid hg0
  have HG1 := Lib.hid hg1
  clear h1 h2 hz1 hz2
  go_enter Try.func40, Try.ntmps40
  go_wp2
  go_loop [3, 11] (fun x ix => ∃ k t : Nat, k ≤ 2 ∧ t ≤ 800 ∧ x = .int .i64 t ∧ ix = .int .i64 k ∧ Hid ((k = 0 → t = 0) ∧ (k = 1 → t = n1) ∧ (k = 2 → t = n1 + n2))) (fun _ ix => 2 - (intOf ix).toNat)
  case atStart => exact ⟨0, 0, by omega, by omega, rfl, rfl, (⟨fun _ => rfl, fun h => by omega, fun h => by omega⟩ : _ ∧ _ ∧ _)⟩
  case round =>
    obtain ⟨k, t, hk, ht, rfl, rfl, HK⟩ := hrel
    have hk3 : k = 0 ∨ k = 1 ∨ k = 2 := by omega
    rcases hk3 with rfl | rfl | rfl
    · have ht0 := HK.out.1 rfl
      subst ht0
      go_wp2
      go_round
      case rel => exact ⟨1, n1, by omega, by omega, by go_num, by go_num, (⟨fun h => by omega, fun _ => rfl, fun h => by omega⟩ : _ ∧ _ ∧ _)⟩
      case measure => simp [intOf]
    · have ht0 := HK.out.2.1 rfl
      subst ht0
      go_wp2
      go_round
      case rel => exact ⟨2, t + n2, by omega, by omega, by go_num, by go_num, (⟨fun h => by omega, fun h => by omega, fun _ => rfl⟩ : _ ∧ _ ∧ _)⟩
      case measure => simp [intOf]
    · have ht0 := HK.out.2.2 rfl
      subst ht0
      clear hg0 hg1
      go_wp2_with fail
      rw [show (n1 : Int) + (n2 : Int) = ((n1 + n2 : Nat) : Int) from by omega]
      refine (grow_nil (n1 + n2) _ (by omega)).mono ?_
      rintro e w1 ⟨A3, c3, rfl, hown3, hb3⟩
      have HO3 := Lib.hid hown3
      have HB3 := Lib.hid hb3
      clear hown3 hb3
      go_wp2
      go_loopw [6, 27] (fun x ix w' => ∃ (A : Option Addr) (c : Nat) (zs : List Int) (k : Nat), k ≤ 2 ∧ x = .slice A zs.length c ∧ ix = .int .i64 k ∧ Hid (OwnInts w' w.heap.size A c zs) ∧ Hid (Below w.heap.size w w') ∧ Hid (zs = if k = 0 then [] else if k = 1 then xs else xs ++ ys)) (fun _ ix _ => 2 - (intOf ix).toNat)
      case atStart => exact ⟨A3, c3, [], 0, by omega, rfl, rfl, HO3, HB3, rfl⟩
      case round =>
        obtain ⟨A, c, zs, k, hk, rfl, rfl, HO, HB, HZ⟩ := hrel
        have hz : w.heap.size ≤ wr.heap.size := HB.out.size
        have hk3 : k = 0 ∨ k = 1 ∨ k = 2 := by omega
        rcases hk3 with rfl | rfl | rfl
        · have hz0 : zs = [] := HZ.out
          subst hz0
          have hg0 : wr.cell? ⟨g, 0, none⟩ = some (.slice A1 n1 c1) := (HB.out.cell (p := ⟨g, 0, none⟩) hgl).trans HG0.out
          go_wp2_with (at_builtin; refine wpList_app_ints rfl (.tmp 31) (.tmp 32) rfl _ w.heap.size A c [] rfl A1 c1 xs (by rw [HN1.out]; rfl) HO.out (H1.out.belowS HB.out) (by rw [HN1.out]; simp; omega) hz HZ1.out ?_; intro v w3 hA; rw [List.nil_append] at hA; obtain ⟨⟨A4, c4, rfl, hown4⟩, hg4, hb4⟩ := hA; have HO4 := Lib.hid hown4; have HB4 : Hid (Below w.heap.size w w3) := HB.out.trans hb4; clear hown4 hg4 hb4)
          go_wp2
          go_roundw
          case rel => exact ⟨A4, c4, xs, 1, by omega, rfl, by go_num, HO4, HB4, rfl⟩
          case measure => simp [intOf]
        · have hz0 : zs = xs := HZ.out
          subst hz0
          have hg1 : wr.cell? ⟨g, 1, none⟩ = some (.slice A2 n2 c2) := (HB.out.cell (p := ⟨g, 1, none⟩) hgl).trans HG1.out
          obtain ⟨us, HU⟩ : ∃ us, Hid (zs ++ ys = us) := ⟨_, rfl⟩
          go_wp2_with (at_builtin; refine wpList_app_ints rfl (.tmp 31) (.tmp 32) rfl _ w.heap.size A c zs rfl A2 c2 ys (by rw [HN2.out]; rfl) HO.out (H2.out.belowS HB.out) (by rw [HN1.out, HN2.out]; omega) hz HZ2.out ?_; intro v w3 hA; rw [HU.out] at hA; obtain ⟨⟨A4, c4, rfl, hown4⟩, hg4, hb4⟩ := hA; have HO4 := Lib.hid hown4; have HB4 : Hid (Below w.heap.size w w3) := HB.out.trans hb4; clear hown4 hg4 hb4)
          go_wp2
          go_roundw
          case rel => exact ⟨A4, c4, us, 2, by omega, rfl, by go_num, HO4, HB4, (HU.out.symm : us = zs ++ ys)⟩
          case measure => simp [intOf]
        · have hz0 : zs = xs ++ ys := HZ.out
          have HZZ := Lib.hid hz0
          clear hz0
          go_wp2
          go_ret
          refine ⟨A, c, ?_, ?_, HB.out⟩
          · rw [← HZZ.out]; rfl
          · rw [← HZZ.out]; exact HO.out

end Go.Proofs.Ytajiciapiopjcaa
