/- Contracts of the model's l2Digests, l2Sizes and l2Merge. Conditions: the lists lie in memory; the numbers are valid. -/
import Derived.Test.YtajiciapiopjcaaGrowCheck
namespace Go.Proofs.Ytajiciapiopjcaa
open Go.RowKit
set_option linter.unusedVariables false

set_option maxHeartbeats 800000 in
theorem sdig2_any (A : Option Addr) (cap : Nat) (zs : List Int) (w : World) (hI : IntsAt w w.heap.size A zs) (hm : zs.length ≤ maxLen) :
    Calls Try.prog 46 #[.slice A zs.length cap] w fun e w' => e = .returned (.bool (digB zs)) ∧ w = w' := by
  unfold maxLen at hm
  have HI := Lib.hid hI
  clear hI
  obtain ⟨n, HN⟩ : ∃ n, Hid (zs.length = n) := ⟨_, rfl⟩
  rw [HN.out] at hm ⊢
  go_enter Try.func46, Try.ntmps46
  go_wp2
  go_loop [3] (fun i => ∃ k : Nat, k ≤ n ∧ i = .int .i64 k ∧ Hid (digB (zs.take k) = true)) (fun i => n - (intOf i).toNat)
  case atStart => exact ⟨0, Nat.zero_le _, rfl, rfl⟩
  case round =>
    obtain ⟨k, hk, rfl, HD⟩ := hrel
    by_cases hlt : k < n
    · have hlz : k < zs.length := by rw [HN.out]; exact hlt
      obtain ⟨b, o, rfl, hb, hc⟩ := HI.out (by omega)
      have hck := hc k hlz
      by_cases hv : 0 ≤ nth zs k ∧ nth zs k < 991
      · have HT : Hid (digB (zs.take (k + 1)) = true) := by show _ = _; rw [digB_take zs k hlz, HD.out, (validB_iff _).2 hv]; rfl
        obtain ⟨hv0, hv1⟩ := hv
        clear hc hlz
        go_wp2_with fail
        refine (sdig_yes _ _ (by omega) (by omega)).mono ?_
        rintro e w' ⟨rfl, rfl⟩
        go_wp2
        go_round
        case rel => exact ⟨k + 1, by omega, by go_num, HT⟩
        case measure => simp [intOf]; omega
      · have HE := Lib.hid (digB_no k hlz hv)
        have HV := Lib.hid hv
        clear hc hlz hv
        go_wp2_with fail
        refine (sdig_no _ _ HV.out).mono ?_
        rintro e w' ⟨rfl, rfl⟩
        go_wp2
        go_ret
        exact ⟨ret_bool HE.out.symm, rfl⟩
    · have HE : Hid (digB zs = true) := digB_all k (by rw [HN.out]; omega) HD.out
      go_wp2
      go_ret
      exact ⟨ret_bool HE.out.symm, rfl⟩

/-- Where the model's loops over sizes stand: what was there before, and the rest. -/
structure SSizesAt (w : World) (pre : List Nat) (s0 n : Nat) (A : Option Addr) (c : Nat) (ds : List Nat) (s f : Nat) (w' : World) : Prop where
  own : OwnInts w' w.heap.size A c (natsZ ds)
  below : Below w.heap.size w w'
  rest : ds ++ (placesGo f s n).map (·.2) = pre ++ sizesOf s0 n
  fuel : n < s + f
  short : ds.length ≤ 20 + s

def RetSizes (w : World) (m n : Nat) (e : Ending) (w' : World) : Prop :=
  ∃ A cap, e = .returned (.tuple #[.slice A (growSizes m n).length cap, .int .i64 ((sizesOf 0 m).length : Int)]) ∧ OwnInts w' w.heap.size A cap (natsZ (growSizes m n)) ∧ Below w.heap.size w w'

set_option maxHeartbeats 4000000 in
set_option maxRecDepth 100000 in
theorem ssizes_any (m n : Nat) (w : World) (hn : n ≤ 16) (hm : m ≤ n) :
    Calls Try.prog 47 #[.int .i64 (m : Int), .int .i64 (n : Int)] w (RetSizes w m n) := by
  go_enter Try.func47, Try.ntmps47
  go_wp2
  go_loopw [6, 7] (fun x i w' => ∃ (A : Option Addr) (c : Nat) (ds : List Nat) (s f : Nat), s ≤ m ∧ x = .slice A ds.length c ∧ i = .int .i64 s ∧ Hid (SSizesAt w [] 0 m A c ds s f w')) (fun _ i _ => m - (intOf i).toNat)
  case atStart =>
    refine ⟨_, _, [], 0, 17, by omega, rfl, rfl, ?_⟩
    exact ⟨OwnInts.new w, (Below.refl _ _).alloc (Nat.le_refl _) _, rfl, by omega, by simp⟩
  case round =>
    obtain ⟨A, c, ds, s, f, hs, rfl, rfl, HC⟩ := hrel
    by_cases hlt : s < m
    · obtain ⟨f, rfl⟩ : ∃ f', f = f' + 1 := by
        cases f with
        | zero => have := HC.out.fuel; omega
        | succ f => exact ⟨f, rfl⟩
      obtain ⟨k, HK⟩ : ∃ k, Hid (sizeAt s (m - s) = k) := ⟨_, rfl⟩
      have hk1 : 1 ≤ k := by rw [← HK.out]; exact sizeAt_pos _ _
      have hk2 : k ≤ m - s := by rw [← HK.out]; exact sizeAt_le _ _ (by omega)
      have hb0 : w.heap.size ≤ wr.heap.size := HC.out.below.size
      have hdl : ds.length ≤ 40 := by have := HC.out.short; omega
      go_wp2_with fail
      refine (ssize_any _ _ _ (by omega) (by omega)).mono ?_
      rintro e w1 ⟨rfl, rfl⟩
      rw [HK.out]
      go_wp2_with (at_builtin; refine wpList_app_ints rfl (.tmp 19) (.tmp 23) rfl _ w.heap.size A c (natsZ ds) (by rw [natsZ_length]; rfl) _ _ [(k : Int)] rfl (HC.out.own.alloc _) (one_new _ _) (by rw [natsZ_length]; simp; omega) (by simp; omega) (by simp) ?_; intro v w3 hA; obtain ⟨⟨A', c', rfl, hown⟩, hg, hbel⟩ := hA; have HO : Hid (OwnInts w3 w.heap.size A' c' (natsZ (ds ++ [k]))) := (by show OwnInts _ _ _ _ _; rw [natsZ_append]; exact hown); have HB := Lib.hid hbel; have hlen : (natsZ ds ++ [(k : Int)]).length = (ds ++ [k]).length := (by rw [List.length_append, List.length_append, natsZ_length]; rfl); rw [hlen]; clear hown hg hbel hlen)
      refine (ssize_any _ _ _ (by omega) (by omega)).mono ?_
      rintro e w1 ⟨rfl, rfl⟩
      rw [HK.out]
      go_wp2
      go_roundw
      case rel =>
        refine ⟨A', c', ds ++ [k], s + k, f, by omega, by simp, by go_num, ?_⟩
        have hC := HC.out
        refine ⟨HO.out, (hC.below.alloc (by omega) _).trans HB.out, ?_, ?_, ?_⟩
        · rw [← hC.rest, placesGo_step hlt, List.append_assoc]
          show ds ++ ([k] ++ _) = _
          rw [HK.out]
          rfl
        · have := hC.fuel; omega
        · have := hC.short; simp; omega
      case measure => simp [intOf]; omega
    · have HE : Hid (ds = sizesOf 0 m) := by
        show _ = _
        have := HC.out.rest
        rw [placesGo_stop hlt] at this
        simpa using this
      obtain ⟨L, HL⟩ : ∃ L, Hid (ds.length = L) := ⟨_, rfl⟩
      have hL17 : L ≤ 17 := by rw [← HL.out, HE.out, sizesOf_length]; exact places_length_le _ _
      have HS2 : Hid (SSizesAt w (sizesOf 0 m) m n A c ds m 17 wr) := ⟨HC.out.own, HC.out.below, (by rw [HE.out]; rfl), by omega, by rw [HL.out]; omega⟩
      rw [HL.out]
      go_wp2
      go_loopw [6, 9] (fun x i w' => ∃ (A' : Option Addr) (c' : Nat) (ds' : List Nat) (s' f' : Nat), s' ≤ n ∧ x = .slice A' ds'.length c' ∧ i = .int .i64 s' ∧ Hid (SSizesAt w (sizesOf 0 m) m n A' c' ds' s' f' w')) (fun _ i _ => n - (intOf i).toNat)
      case atStart => exact ⟨A, c, ds, m, 17, hm, by rw [HL.out], rfl, HS2⟩
      case round =>
        obtain ⟨A', c', ds', s', f', hs', rfl, rfl, HC'⟩ := hrel
        by_cases hlt : s' < n
        · obtain ⟨f', rfl⟩ : ∃ f1, f' = f1 + 1 := by
            cases f' with
            | zero => have := HC'.out.fuel; omega
            | succ f => exact ⟨f, rfl⟩
          obtain ⟨k, HK⟩ : ∃ k, Hid (sizeAt s' (n - s') = k) := ⟨_, rfl⟩
          have hk1 : 1 ≤ k := by rw [← HK.out]; exact sizeAt_pos _ _
          have hk2 : k ≤ n - s' := by rw [← HK.out]; exact sizeAt_le _ _ (by omega)
          have hb0 : w.heap.size ≤ wr.heap.size := HC'.out.below.size
          have hdl : ds'.length ≤ 40 := by have := HC'.out.short; omega
          go_wp2_with fail
          refine (ssize_any _ _ _ (by omega) (by omega)).mono ?_
          rintro e w1 ⟨rfl, rfl⟩
          rw [HK.out]
          go_wp2_with (at_builtin; refine wpList_app_ints rfl (.tmp 36) (.tmp 40) rfl _ w.heap.size A' c' (natsZ ds') (by rw [natsZ_length]; rfl) _ _ [(k : Int)] rfl (HC'.out.own.alloc _) (one_new _ _) (by rw [natsZ_length]; simp; omega) (by simp; omega) (by simp) ?_; intro v w3 hA; obtain ⟨⟨A3, c3, rfl, hown⟩, hg, hbel⟩ := hA; have HO : Hid (OwnInts w3 w.heap.size A3 c3 (natsZ (ds' ++ [k]))) := (by show OwnInts _ _ _ _ _; rw [natsZ_append]; exact hown); have HB := Lib.hid hbel; have hlen : (natsZ ds' ++ [(k : Int)]).length = (ds' ++ [k]).length := (by rw [List.length_append, List.length_append, natsZ_length]; rfl); rw [hlen]; clear hown hg hbel hlen)
          refine (ssize_any _ _ _ (by omega) (by omega)).mono ?_
          rintro e w1 ⟨rfl, rfl⟩
          rw [HK.out]
          go_wp2
          go_roundw
          case rel =>
            refine ⟨A3, c3, ds' ++ [k], s' + k, f', by omega, by simp, by go_num, ?_⟩
            have hC := HC'.out
            refine ⟨HO.out, (hC.below.alloc (by omega) _).trans HB.out, ?_, ?_, ?_⟩
            · rw [← hC.rest, placesGo_step hlt, List.append_assoc]
              show ds' ++ ([k] ++ _) = _
              rw [HK.out]
              rfl
            · have := hC.fuel; omega
            · have := hC.short; simp; omega
          case measure => simp [intOf]; omega
        · have HE' : Hid (ds' = growSizes m n) := by
            show _ = _
            have := HC'.out.rest
            rw [placesGo_stop hlt] at this
            simpa [growSizes] using this
          go_wp2
          go_ret2
          refine ⟨A', c', ?_, ?_, HC'.out.below⟩
          · rw [← HE'.out, ← HE.out, HL.out]; rfl
          · rw [← HE'.out]; exact HC'.out.own

end Go.Proofs.Ytajiciapiopjcaa
