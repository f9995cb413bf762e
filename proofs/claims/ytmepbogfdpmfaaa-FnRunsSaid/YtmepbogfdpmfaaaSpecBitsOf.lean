/- Contract of the model of BitsOf: the bits of valid runs and true, an empty slice and false otherwise; nothing that was there is changed. Conditions: the lengths lie in memory; there are at most 2^20. -/
import Derived.Test.YtmepbogfdpmfaaaBitsOf
namespace Go.Proofs.Ytmepbogfdpmfaaa
open Go.RowKit
set_option linter.unusedVariables false

/-- Bools that are piled up in memory of the call's own. -/
structure PiledB (w : World) (zs : List Bool) (X : Option Addr) (c : Nat) (w' : World) : Prop where
  own : OwnBools w' w.heap.size X c zs
  below : Below w.heap.size w w'
theorem PiledB.app {w w1 w2 : World} {zs ys : List Bool} {X : Option Addr} {c : Nat} {v : Value} (h : PiledB w zs X c w1) (o : Obj) (hA : AppendedB (w1.alloc o) w.heap.size X zs.length c ys v w2) : ∃ X' c', v = .slice X' ys.length c' ∧ PiledB w ys X' c' w2 := by
  obtain ⟨⟨X', c', hv, ho⟩, hg, hb⟩ := hA
  exact ⟨X', c', hv, ho, (h.below.alloc h.below.size o).trans hb⟩
theorem retNo {w wr : World} {zs : List Int} {m : Nat} {e : Ending} (hg : goodK zs m = false) (hb : Below w.heap.size w wr) (hm : zs.length = m) (he : e = .returned (.tuple #[.slice (some ⟨wr.heap.size, 0, none⟩) 0 0, .bool false])) : RetBits w (bitsOr zs) (goodK zs m) e (wr.alloc (.cells #[] 4)) := by
  subst hm
  rw [bitsOr_no hg, hg, he]
  exact ⟨_, 0, rfl, (OwnBools.new wr).base_le hb.size, hb.alloc hb.size _⟩

set_option maxHeartbeats 8000000 in
set_option maxRecDepth 100000 in
theorem sbitsOf_any (A : Option Addr) (cap : Nat) (zs : List Int) (w : World) (hm : zs.length ≤ 1048576) (hI : IntsAt w w.heap.size A zs) :
    Calls Try.prog 16 #[.slice A zs.length cap] w (RetBits w (bitsOr zs) (goodK zs zs.length)) := by
  have HI := Lib.hid hI
  clear hI
  obtain ⟨m, HM⟩ : ∃ m, Hid (zs.length = m) := ⟨_, rfl⟩
  rw [HM.out] at hm ⊢
  go_enter Try.func16, Try.ntmps16
  go_wp2
  go_loopw [4, 5, 6] (fun x y i w' => ∃ (k L c : Nat) (X : Option Addr), k ≤ m ∧ L ≤ 16 * k ∧ x = .slice X L c ∧ y = .bool (par k) ∧ i = .int .i64 k ∧ Hid (okK zs k = true) ∧ Hid ((bitsTo zs k).length = L) ∧ Hid (PiledB w (bitsTo zs k) X c w')) (fun _ _ i _ => m - (intOf i).toNat)
  case atStart => exact ⟨0, 0, 0, _, by omega, by omega, rfl, rfl, rfl, rfl, rfl, OwnBools.new w, (Below.refl _ _).alloc (Nat.le_refl _) _⟩
  case round =>
    obtain ⟨k, L, c, X, hk, hLk, rfl, rfl, rfl, HOK, HL, HP⟩ := hrel
    have hsz := HP.out.below.size
    by_cases hlt : k < m
    · have hkz : k < zs.length := by rw [HM.out]; exact hlt
      obtain ⟨blk, o, rfl, hbl, hc⟩ := (HI.out.belowS HP.out.below) (by omega)
      have hck := hc k hkz
      have hki : (k : Int) < (m : Int) := by omega
      have hstep : okK zs (k + 1) = decide (leastN m k ≤ nth zs k ∧ nth zs k ≤ 16) := by rw [okK, HOK.out, HM.out, Bool.true_and]
      have hsn : bitsTo zs (k + 1) = bitsTo zs k ++ List.replicate (nth zs k).toNat (par k) := rfl
      have h01 := leastN_01 m k
      obtain ⟨z, HZ⟩ : ∃ z, Hid (nth zs k = z) := ⟨_, rfl⟩
      rw [HZ.out] at hck hstep hsn
      by_cases hz0 : z < 0
      · have hd1 : decide (z < 0) = true := by simp [hz0]
        have HNO : Hid (goodK zs m = false) := by
          show _ = _
          rw [good_ok, okK_not (k := k + 1) (by rw [hstep, decide_eq_false_iff_not]; omega) (by omega)]
          rfl
        clear hc hkz hstep hsn
        go_wp2
        go_ret2
        exact retNo HNO.out HP.out.below HM.out rfl
      · have hd1 : decide (z < 0) = false := by simp; omega
        by_cases hz16 : 16 < z
        · have hd2 : decide (16 < z) = true := by simp [hz16]
          have HNO : Hid (goodK zs m = false) := by
            show _ = _
            rw [good_ok, okK_not (k := k + 1) (by rw [hstep, decide_eq_false_iff_not]; omega) (by omega)]
            rfl
          clear hc hkz hstep hsn
          go_wp2
          go_ret2
          exact retNo HNO.out HP.out.below HM.out rfl
        · have hd2 : decide (16 < z) = false := by simp; omega
          by_cases hbad : z = 0 ∧ (0 < k ∨ m = 1)
          · obtain ⟨hze, hkm⟩ := hbad
            have hd3 : (z == 0) = true := by simp [hze]
            have hleast : leastN m k = 1 := by unfold leastN; rw [if_neg (by omega)]
            by_cases hk0 : 0 < k
            · have hd4 : decide (0 < k) = true := by simp [hk0]
              have HNO : Hid (goodK zs m = false) := by
                show _ = _
                rw [good_ok, okK_not (k := k + 1) (by rw [hstep, decide_eq_false_iff_not]; omega) (by omega)]
                rfl
              clear hc hkz hstep hsn
              go_wp2
              go_ret2
              exact retNo HNO.out HP.out.below HM.out rfl
            · have hd4 : decide (0 < k) = false := by simp; omega
              have hd5 : ((m : Int) == 1) = true := by have : m = 1 := by omega
                                                       simp [this]
              have HNO : Hid (goodK zs m = false) := by
                show _ = _
                rw [good_ok, okK_not (k := k + 1) (by rw [hstep, decide_eq_false_iff_not]; omega) (by omega)]
                rfl
              clear hc hkz hstep hsn
              go_wp2
              go_ret2
              exact retNo HNO.out HP.out.below HM.out rfl
          · obtain ⟨y, hy⟩ := Int.eq_ofNat_of_zero_le (show 0 ≤ z by omega)
            have HOK1 : Hid (okK zs (k + 1) = true) := by
              show _ = _
              rw [hstep, decide_eq_true_iff]
              refine ⟨?_, by omega⟩
              unfold leastN
              split
              · omega
              · rename_i hne
                by_cases e : z = 0
                · exact absurd ⟨e, by omega⟩ hbad
                · omega
            have HBT : Hid (bitsTo zs (k + 1) = bitsTo zs k ++ List.replicate y (par k)) := by
              show _ = _
              rw [hsn, hy]
              rfl
            subst hy
            have hy16 : y ≤ 16 := by omega
            have hpar := par_succ k
            have HPAR := Lib.hid hpar
            obtain ⟨pk, HPK⟩ : ∃ pk, Hid (par k = pk) := ⟨_, rfl⟩
            rw [HPK.out] at HBT HPAR ⊢
            have HX : Hid (∀ W : World, Below w.heap.size w W → W.cell? ⟨blk, o + k, none⟩ = some (.int .i64 ((y : Nat) : Int))) := by
              intro W hW
              have h := ((HI.out.belowS hW).lt (by rw [HM.out]; omega)).2 k (by rw [HM.out]; exact hlt)
              rw [HZ.out] at h
              exact h
            have test : ((((y : Nat) : Int) == 0) = false) ∨ ((((y : Nat) : Int) == 0) = true ∧ k = 0 ∧ ¬ m = 1) := by
              by_cases e : y = 0
              · right
                subst e
                refine ⟨rfl, ?_, ?_⟩
                · rcases Nat.eq_zero_or_pos k with h | h
                  · exact h
                  · exact absurd ⟨rfl, .inl h⟩ hbad
                · intro h
                  exact absurd ⟨rfl, .inr h⟩ hbad
              · left
                exact beq_eq_false_iff_ne.2 (by omega)
            clear hc hkz hstep hsn hbad hpar
            rcases test with hd3 | ⟨hd3, hk0, hm1⟩
            · go_wp2
              go_loopw [4, 7] (fun x i w' => ∃ (j N c2 : Nat) (X2 : Option Addr), j ≤ y ∧ N = L + j ∧ x = .slice X2 N c2 ∧ i = .int .i64 j ∧ Hid ((bitsTo zs k ++ List.replicate j pk).length = N) ∧ Hid (PiledB w (bitsTo zs k ++ List.replicate j pk) X2 c2 w')) (fun _ i _ => y - (intOf i).toNat)
              case atStart => exact ⟨0, L, c, X, by omega, rfl, rfl, rfl, (by show _ = _; rw [List.replicate_zero, List.append_nil]; exact HL.out), (by show PiledB _ _ _ _ _; rw [List.replicate_zero, List.append_nil]; exact HP.out)⟩
              case round =>
                obtain ⟨j, N, c2, X2, hj, hN, rfl, rfl, HL2, HP2⟩ := hrel
                have hsz2 := HP2.out.below.size
                have hcy := HX.out _ HP2.out.below
                by_cases hjy : j < y
                · go_wp2_with (at_builtin; refine wpList_app_bools rfl (.tmp 52) (.tmp 54) rfl _ w.heap.size X2 c2 (bitsTo zs k ++ List.replicate j pk) (by rw [HL2.out]; rfl) _ _ [pk] rfl (HP2.out.own.alloc _) (one_newB _ _) (by rw [HL2.out]; simp; omega) (by simp; omega) (by simp) ?_; intro v w4 hA)
                  obtain ⟨X', c', rfl, hP4⟩ := HP2.out.app _ hA
                  have hlen : (bitsTo zs k ++ List.replicate j pk ++ [pk]).length = N + 1 := by rw [List.length_append, HL2.out]; rfl
                  rw [hlen]
                  have hap : bitsTo zs k ++ List.replicate j pk ++ [pk] = bitsTo zs k ++ List.replicate (j + 1) pk := by rw [List.append_assoc, replicate_snoc]
                  rw [hap] at hP4 hlen
                  have HP4 := Lib.hid hP4
                  have HL4 := Lib.hid hlen
                  clear hA hP4 hlen hap
                  go_wp2
                  go_roundw
                  case rel => exact ⟨j + 1, N + 1, c', X', by omega, by omega, by simp, by go_num, HL4, HP4⟩
                  case measure => simp [intOf]; omega
                · have hjy2 : j = y := by omega
                  subst hjy2
                  have HL5 : Hid ((bitsTo zs (k + 1)).length = N) := by show _ = _; rw [HBT.out]; exact HL2.out
                  have HP5 : Hid (PiledB w (bitsTo zs (k + 1)) X2 c2 wr) := by show PiledB _ _ _ _ _; rw [HBT.out]; exact HP2.out
                  go_wp2
                  go_roundw
                  case rel => exact ⟨k + 1, N, c2, X2, by omega, by omega, rfl, by rw [HPAR.out], by go_num, HOK1, HL5, HP5⟩
                  case measure => simp [intOf]; omega
            · have hd4 : decide (0 < k) = false := by simp; omega
              have hd5 : ((m : Int) == 1) = false := beq_eq_false_iff_ne.2 (by omega)
              clear hk0 hm1
              go_wp2
              go_loopw [4, 7] (fun x i w' => ∃ (j N c2 : Nat) (X2 : Option Addr), j ≤ y ∧ N = L + j ∧ x = .slice X2 N c2 ∧ i = .int .i64 j ∧ Hid ((bitsTo zs k ++ List.replicate j pk).length = N) ∧ Hid (PiledB w (bitsTo zs k ++ List.replicate j pk) X2 c2 w')) (fun _ i _ => y - (intOf i).toNat)
              case atStart => exact ⟨0, L, c, X, by omega, rfl, rfl, rfl, (by show _ = _; rw [List.replicate_zero, List.append_nil]; exact HL.out), (by show PiledB _ _ _ _ _; rw [List.replicate_zero, List.append_nil]; exact HP.out)⟩
              case round =>
                obtain ⟨j, N, c2, X2, hj, hN, rfl, rfl, HL2, HP2⟩ := hrel
                have hsz2 := HP2.out.below.size
                have hcy := HX.out _ HP2.out.below
                by_cases hjy : j < y
                · go_wp2_with (at_builtin; refine wpList_app_bools rfl (.tmp 52) (.tmp 54) rfl _ w.heap.size X2 c2 (bitsTo zs k ++ List.replicate j pk) (by rw [HL2.out]; rfl) _ _ [pk] rfl (HP2.out.own.alloc _) (one_newB _ _) (by rw [HL2.out]; simp; omega) (by simp; omega) (by simp) ?_; intro v w4 hA)
                  obtain ⟨X', c', rfl, hP4⟩ := HP2.out.app _ hA
                  have hlen : (bitsTo zs k ++ List.replicate j pk ++ [pk]).length = N + 1 := by rw [List.length_append, HL2.out]; rfl
                  rw [hlen]
                  have hap : bitsTo zs k ++ List.replicate j pk ++ [pk] = bitsTo zs k ++ List.replicate (j + 1) pk := by rw [List.append_assoc, replicate_snoc]
                  rw [hap] at hP4 hlen
                  have HP4 := Lib.hid hP4
                  have HL4 := Lib.hid hlen
                  clear hA hP4 hlen hap
                  go_wp2
                  go_roundw
                  case rel => exact ⟨j + 1, N + 1, c', X', by omega, by omega, by simp, by go_num, HL4, HP4⟩
                  case measure => simp [intOf]; omega
                · have hjy2 : j = y := by omega
                  subst hjy2
                  have HL5 : Hid ((bitsTo zs (k + 1)).length = N) := by show _ = _; rw [HBT.out]; exact HL2.out
                  have HP5 : Hid (PiledB w (bitsTo zs (k + 1)) X2 c2 wr) := by show PiledB _ _ _ _ _; rw [HBT.out]; exact HP2.out
                  go_wp2
                  go_roundw
                  case rel => exact ⟨k + 1, N, c2, X2, by omega, by omega, rfl, by rw [HPAR.out], by go_num, HOK1, HL5, HP5⟩
                  case measure => simp [intOf]; omega
    · have hkm : k = m := by omega
      subst hkm
      have hL := HL.out
      by_cases h16 : 16 < L
      · have HNO : Hid (goodK zs k = false) := by
          show _ = _
          rw [good_ok, ← bitsTo_length, hL]
          have : decide (L ≤ 16) = false := by simp; omega
          rw [this, Bool.and_false]
        clear hL
        go_wp2
        go_ret2
        exact retNo HNO.out HP.out.below HM.out rfl
      · have HYES : Hid (goodK zs k = true) := by
          show _ = _
          rw [good_ok, ← bitsTo_length, hL, HOK.out]
          have : decide (L ≤ 16) = true := by simp; omega
          rw [this]
          rfl
        have HBO : Hid (bitsOr zs = bitsTo zs k) := by
          show _ = _
          have h := HYES.out
          rw [← HM.out] at h
          rw [bitsOr_yes h, HM.out]
        clear hL
        go_wp2
        go_ret2
        exact ⟨X, c, by rw [HBO.out, HYES.out, HL.out]; rfl, by rw [HBO.out]; exact HP.out.own, HP.out.below⟩

end Go.Proofs.Ytmepbogfdpmfaaa
