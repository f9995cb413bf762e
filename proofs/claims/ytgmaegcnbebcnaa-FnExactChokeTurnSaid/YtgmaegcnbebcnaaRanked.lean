/- Contracts of the ranks of peers, of the best peers and of the others. Conditions: the numbers lie in memory, at most 6 peers. -/
import Derived.Test.YtgmaegcnbebcnaaSortBy
import Derived.Test.YtgmaegcnbebcnaaSortInts
import Derived.Test.YtgmaegcnbebcnaaGifts
import Derived.Test.YtgmaegcnbebcnaaBaseD
namespace Go.Proofs.Ytgmaegcnbebcnaa
open Go.RowKit
set_option linter.unusedVariables false

theorem own_cut {w : World} {base g c : Nat} {zs : List Int} (h : OwnInts w base (some ⟨g, 0, none⟩) c zs) (k : Nat) (hk : k ≤ zs.length) : OwnInts w base (some ⟨g, 0, none⟩) c (zs.take k) := by
  have hl : (zs.take k).length = k := by rw [List.length_take]; omega
  rcases h.2 with ⟨hv, _⟩ | ⟨g', c', cur, hv, hb, hg, hn, hm, hs, ht⟩
  · injection hv with hA _ _; cases hA
  · injection hv with hA _ hc
    injection hA with hA
    injection hA with hA _ _
    subst hA hc
    refine ⟨by rw [vals_length]; omega, .inr ⟨g, c, cur, rfl, hb, hg, by omega, hm, hs, ?_⟩⟩
    rw [hl, Nat.mul_one]
    rw [Nat.mul_one] at ht
    have e : vals (zs.take k) = (vals zs).take k := by unfold vals; rw [List.map_take]
    rw [e, ← ht, List.take_take, Nat.min_eq_left hk]
theorem numZ_take (ks : List Nat) (k : Nat) : (numZ ks).take k = numZ (ks.take k) := by unfold numZ; rw [List.map_take]
theorem numZ_drop (ks : List Nat) (k : Nat) : (numZ ks).drop k = numZ (ks.drop k) := by unfold numZ; rw [List.map_drop]
/-- The numbers of the first k peers, then zeros. -/
def upTo (k n : Nat) : List Int := numZ (List.range k) ++ zerosZ (n - k)
theorem upTo_length {k n : Nat} (h : k ≤ n) : (upTo k n).length = n := by unfold upTo; rw [List.length_append, numZ_length, List.length_range, zerosZ_length]; omega
theorem upTo_step {k n : Nat} (h : k < n) : (upTo k n).set k (k : Int) = upTo (k + 1) n := by
  unfold upTo
  have e : n - k = (n - (k + 1)) + 1 := by omega
  have hz : zerosZ (n - k) = 0 :: zerosZ (n - (k + 1)) := by rw [e]; rfl
  have hl : (numZ (List.range k)).length = k := by rw [numZ_length, List.length_range]
  rw [hz, List.set_append_right _ _ (by omega), hl, Nat.sub_self, List.range_succ, numZ_append, List.append_assoc]
  rfl
theorem upTo_all (n : Nat) : upTo n n = numZ (List.range n) := by unfold upTo; rw [Nat.sub_self]; show _ ++ [] = _; rw [List.append_nil]
theorem upTo_none (n : Nat) : upTo 0 n = zerosZ n := rfl

/-- What ranked hands back. -/
def RankedBy (w : World) (gs : List Int) (n : Nat) (e : Ending) (w' : World) : Prop :=
  e = .returned (.slice (some ⟨w.heap.size, 0, none⟩) n n) ∧ OwnInts w' w.heap.size (some ⟨w.heap.size, 0, none⟩) n (numZ (rankL gs)) ∧ Below w.heap.size w w'

set_option maxHeartbeats 3000000 in
set_option maxRecDepth 100000 in
theorem ranked_any (A : Option Addr) (cap : Nat) (gs : List Int) (n : Nat) (w : World) (hI : IntsAt w w.heap.size A gs) (hn : gs.length = n) (hm : n ≤ 6) :
    Calls Try.prog 32 #[.slice A n cap] w (RankedBy w gs n) := by
  have hmk := run_make_row' (P := Try.prog) 22 3 (.int .i64 0) 8 Try.underlying22 int_info rfl .i64 .i64 n (by omega) (by omega)
  simp only [madeCells_vals] at hmk
  have HI := Lib.hid hI
  have HN := Lib.hid hn
  clear hI hn
  go_enter Try.func32, Try.ntmps32
  go_wp2
  clear hmk
  go_loopw [4, 10] (fun _ i w' => ∃ k : Nat, k ≤ n ∧ i = .int .i64 k ∧ Hid (OwnInts w' w.heap.size (some ⟨w.heap.size, 0, none⟩) n (upTo k n)) ∧ Hid (Below w.heap.size w w')) (fun _ i _ => n - (intOf i).toNat)
  case atStart => exact ⟨0, by omega, rfl, own_made w n (by omega), (Below.refl _ _).alloc (Nat.le_refl _) _⟩
  case round =>
    obtain ⟨k, hk, rfl, HO, HB⟩ := hrel
    by_cases hlt : k < n
    · obtain ⟨hcx, hfx⟩ := own_cell HO.out k (by rw [upTo_length hk]; exact hlt)
      have hki : (k : Int) < (n : Int) := by omega
      have hk0 : (0 : Int) ≤ (k : Int) := by omega
      have hs := own_stored HO.out k (k : Int)
      rw [upTo_step hlt] at hs
      have HS := Lib.hid hs.1
      have HBS : Hid (Below w.heap.size w (wr.setCell ⟨w.heap.size, k, none⟩ (.int .i64 (k : Int)))) := HB.out.setCell (p := ⟨w.heap.size, k, none⟩) (Nat.le_refl _) _
      clear hs
      go_wp2
      go_roundw
      case rel => exact ⟨k + 1, by omega, by go_num, HS, HBS⟩
      case measure => simp [intOf]; omega
    · have hkn : k = n := by omega
      subst hkn
      have ho := HO.out
      rw [upTo_all] at ho
      have C := Lib.hid (sortBy_any A cap gs w.heap.size w.heap.size k k (List.range k) wr (HI.out.below HB.out (Nat.le_refl _)) ho List.length_range hm (fun x hx => by rw [HN.out]; exact List.mem_range.1 hx) List.nodup_range)
      rw [HN.out] at C
      clear ho
      go_wp2_with fail
      refine C.out.mono ?_
      rintro e w1 ⟨rfl, rs, hp, hs, ho, hb⟩
      have hR : rs = rankL gs := rank_unique (by rw [HN.out]; exact hp) hs
      subst hR
      have HO1 := Lib.hid ho
      have HB1 := Lib.hid (HB.out.trans hb)
      clear hp hs ho hb C
      go_wp2
      go_ret
      exact ⟨rfl, HO1.out, HB1.out⟩

set_option maxHeartbeats 2000000 in
set_option maxRecDepth 100000 in
theorem best_any (A : Option Addr) (cap : Nat) (gs : List Int) (n : Nat) (w : World) (hI : IntsAt w w.heap.size A gs) (hn : gs.length = n) (hm : n ≤ 6) :
    Calls Try.prog 26 #[.slice A n cap] w (RetInts w (numZ (bestN gs))) := by
  have C := Lib.hid (ranked_any A cap gs n w hI hn hm)
  have HN := Lib.hid hn
  clear hI hn
  by_cases h3 : n ≤ 3
  · have hmin : min (3 : Int) (n : Int) = (n : Int) := by omega
    go_enter Try.func26, Try.ntmps26
    go_wp2_with fail
    refine C.out.mono ?_
    rintro e w1 ⟨rfl, ho, hb⟩
    have HO := Lib.hid ho
    have HB := Lib.hid hb
    clear ho hb C
    go_wp2
    go_ret
    refine ⟨some ⟨w.heap.size, 0, none⟩, n, ?_, ?_, HB.out⟩
    · rw [numZ_length, best_length, HN.out, Nat.min_eq_right h3]; rfl
    · have e : bestN gs = rankL gs := List.take_of_length_le (by rw [rankL_length, HN.out]; exact h3)
      rw [e]
      exact HO.out
  · have hmin : min (3 : Int) (n : Int) = 3 := by omega
    have h3z : (3 : Int) ≤ (n : Int) := by omega
    go_enter Try.func26, Try.ntmps26
    go_wp2_with fail
    refine C.out.mono ?_
    rintro e w1 ⟨rfl, ho, hb⟩
    have HO := Lib.hid ho
    have HB := Lib.hid hb
    clear ho hb C
    go_wp2
    go_ret
    refine ⟨some ⟨w.heap.size, 0, none⟩, n, ?_, ?_, HB.out⟩
    · rw [numZ_length, best_length, HN.out, Nat.min_eq_left (by omega)]; rfl
    · have h := own_cut HO.out 3 (by rw [numZ_length, rankL_length, HN.out]; omega)
      rw [numZ_take] at h
      exact h

set_option maxHeartbeats 2000000 in
set_option maxRecDepth 100000 in
theorem others_any (A : Option Addr) (cap : Nat) (gs : List Int) (n : Nat) (w : World) (hI : IntsAt w w.heap.size A gs) (hn : gs.length = n) (hm : n ≤ 6) :
    Calls Try.prog 28 #[.slice A n cap] w (RetInts w (numZ (restN gs))) := by
  have C := Lib.hid (ranked_any A cap gs n w hI hn hm)
  have HN := Lib.hid hn
  clear hI hn
  by_cases h3 : n ≤ 3
  · have hmin : min (3 : Int) (n : Int) = (n : Int) := by omega
    go_enter Try.func28, Try.ntmps28
    go_wp2_with fail
    refine C.out.mono ?_
    rintro e w1 ⟨rfl, ho, hb⟩
    have HO := Lib.hid ho
    have HB := Lib.hid hb
    clear ho hb C
    go_wp2_with fail
    refine (values_any _ _ _ _).mono ?_
    rintro e w2 ⟨rfl, rfl⟩
    have CS : Hid (Calls Try.prog 35 #[.func (.func 52) #[] #[.pointer (some ⟨w1.heap.size, 0, none⟩)]] (w1.alloc (.cells #[.slice (some ⟨w.heap.size, 0, none⟩) 0 0] 22)) (RetInts w1 (numZ (restN gs)))) := by
      have e : restN gs = [] := rest_none (by rw [HN.out]; exact h3)
      have h := sortedV_any (some ⟨w.heap.size, 0, none⟩) 0 [] (by simp) w1 IntsAt.nil
      rw [e]
      have e2 : ascZ [] = numZ [] := by unfold ascZ; simp; rfl
      rw [e2] at h
      exact h
    go_wp2_with fail
    refine CS.out.mono ?_
    rintro e w3 ⟨A3, c3, rfl, ho3, hb3⟩
    have HO3 := Lib.hid (ho3.base_le HB.out.size)
    have HB3 := Lib.hid (HB.out.trans (hb3.mono HB.out.size))
    clear ho3 hb3 CS
    go_wp2
    go_ret
    exact ⟨A3, c3, rfl, HO3.out, HB3.out⟩
  · have hmin : min (3 : Int) (n : Int) = 3 := by omega
    have h3z : (3 : Int) ≤ (n : Int) := by omega
    go_enter Try.func28, Try.ntmps28
    go_wp2_with fail
    refine C.out.mono ?_
    rintro e w1 ⟨rfl, ho, hb⟩
    have HO := Lib.hid ho
    have HB := Lib.hid hb
    clear ho hb C
    go_wp2_with fail
    refine (values_any _ _ _ _).mono ?_
    rintro e w2 ⟨rfl, rfl⟩
    have CS : Hid (Calls Try.prog 35 #[.func (.func 52) #[] #[.pointer (some ⟨w1.heap.size, 0, none⟩)]] (w1.alloc (.cells #[.slice (some ⟨w.heap.size, 3, none⟩) (n - 3) (n - 3)] 22)) (RetInts w1 (numZ (restN gs)))) := by
      have hl : (numZ ((rankL gs).drop 3)).length = n - 3 := by rw [numZ_length, List.length_drop, rankL_length, HN.out]
      have hp := HO.out.ints.part 3 (n - 3) rfl
      rw [numZ_drop, List.take_of_length_le (by omega)] at hp
      have h := sortedV_any (some ⟨w.heap.size, 0 + 3, none⟩) (n - 3) (numZ ((rankL gs).drop 3)) (by omega) w1 hp
      rw [hl, Nat.zero_add] at h
      have e2 : ascZ (numZ ((rankL gs).drop 3)) = numZ (restN gs) := sort_num (rest_perm gs) (rest_asc gs)
      rw [e2] at h
      exact h
    go_wp2_with fail
    refine CS.out.mono ?_
    rintro e w3 ⟨A3, c3, rfl, ho3, hb3⟩
    have HO3 := Lib.hid (ho3.base_le HB.out.size)
    have HB3 := Lib.hid (HB.out.trans (hb3.mono HB.out.size))
    clear ho3 hb3 CS
    go_wp2
    go_ret
    exact ⟨A3, c3, rfl, HO3.out, HB3.out⟩

end Go.Proofs.Ytgmaegcnbebcnaa
