/- Contract of the model of BitsRuns: the lengths of the runs of the bits, or none if there are more than 16; nothing that was there is changed. Condition: the bits lie in memory. -/
import Derived.Test.YtmepbogfdpmfaaaBitsRuns
namespace Go.Proofs.Ytmepbogfdpmfaaa
open Go.RowKit
set_option linter.unusedVariables false

/-- Integers that are piled up in memory of the call's own. -/
structure Piled (w : World) (zs : List Int) (X : Option Addr) (c : Nat) (w' : World) : Prop where
  own : OwnInts w' w.heap.size X c zs
  below : Below w.heap.size w w'
theorem Piled.app {w w1 w2 : World} {zs ys : List Int} {X : Option Addr} {c : Nat} {v : Value} (h : Piled w zs X c w1) (o : Obj) (hA : Appended (w1.alloc o) w.heap.size X zs.length c ys v w2) : ∃ X' c', v = .slice X' ys.length c' ∧ Piled w ys X' c' w2 := by
  obtain ⟨⟨X', c', hv, ho⟩, hg, hb⟩ := hA
  exact ⟨X', c', hv, ho, (h.below.alloc h.below.size o).trans hb⟩

/-- Runs' lengths as integers. -/
def lenI (R : List (Bool × Nat)) : List Int := R.map fun p => (p.2 : Int)
theorem lenI_snoc (R : List (Bool × Nat)) (p : Bool × Nat) : lenI (R ++ [p]) = lenI R ++ [(p.2 : Int)] := by unfold lenI; rw [List.map_append]; rfl
theorem lenI_length (R : List (Bool × Nat)) : (lenI R).length = R.length := List.length_map _

set_option maxHeartbeats 4000000 in
set_option maxRecDepth 100000 in
theorem sbitsRuns_yes (A : Option Addr) (cap : Nat) (bs : List Bool) (w : World) (hl : bs.length ≤ 16) (hI : BoolsAt w w.heap.size A bs) :
    Calls Try.prog 11 #[.slice A bs.length cap] w (RetInts w (runsInts bs)) := by
  have HI := Lib.hid hI
  clear hI
  obtain ⟨m, HM⟩ : ∃ m, Hid (bs.length = m) := ⟨_, rfl⟩
  rw [HM.out] at hl ⊢
  go_enter Try.func11, Try.ntmps11
  go_wp2
  go_loopw [3, 4, 5, 6] (fun x y t i w' => ∃ (k L c cx : Nat) (b : Bool) (X : Option Addr) (R : List (Bool × Nat)), k ≤ m ∧ L ≤ k ∧ c ≤ k ∧ x = .slice X L cx ∧ y = .bool b ∧ t = .int .i64 (c : Int) ∧ i = .int .i64 k ∧ Hid (runSt (bs.take k) = (R, b, c)) ∧ Hid ((lenI R).length = L) ∧ Hid (Piled w (lenI R) X cx w')) (fun _ _ _ i _ => m - (intOf i).toNat)
  case atStart => exact ⟨0, 0, 0, 0, false, _, [], by omega, by omega, by omega, rfl, rfl, rfl, rfl, rfl, rfl, OwnInts.new w, (Below.refl _ _).alloc (Nat.le_refl _) _⟩
  case round =>
    obtain ⟨k, L, c, cx, b, X, R, hk, hLk, hck, rfl, rfl, rfl, rfl, HR, HL, HP⟩ := hrel
    have hsz := HP.out.below.size
    by_cases hlt : k < m
    · have hkz : k < bs.length := by rw [HM.out]; exact hlt
      obtain ⟨blk, o, rfl, hb, hc⟩ := (HI.out.belowS HP.out.below) (by omega)
      have hcell := hc k hkz
      have hki : (k : Int) < (m : Int) := by omega
      by_cases hv : bth bs k = b
      · have HN := Lib.hid (runSt_same hkz HR.out hv)
        have hvb : (!bth bs k == b) = false := by rw [hv]; simp
        clear hc hkz hv
        go_wp2
        go_roundw
        case rel => exact ⟨k + 1, L, c + 1, cx, b, X, R, by omega, by omega, by omega, rfl, rfl, by go_num, by go_num, HN, HL, HP⟩
        case measure => simp [intOf]; omega
      · have HN := Lib.hid (runSt_other hkz HR.out hv)
        have hvb : (!bth bs k == b) = true := by simp [hv]
        have HIJ := Lib.hid hc
        obtain ⟨X0, HX0⟩ : ∃ X0 : Option Addr, Hid (X0 = X) := ⟨_, rfl⟩
        clear hc hkz hv
        go_wp2_with (at_builtin; refine wpList_app_ints rfl (.tmp 24) (.tmp 26) rfl _ w.heap.size X cx (lenI R) (by rw [HL.out]; rfl) _ _ [(c : Int)] rfl (HP.out.own.alloc _) (one_new _ _) (by rw [HL.out]; simp; omega) (by simp; omega) (by simp) ?_; intro v w4 hA; obtain ⟨X', c', rfl, hP4⟩ := HP.out.app _ hA; have hlen : (lenI R ++ [(c : Int)]).length = L + 1 := (by rw [List.length_append, HL.out]; rfl); rw [hlen]; have hcell4 : w4.cell? ⟨blk, o + k, none⟩ = some (.bool (bth bs k)) := ((HI.out.belowS hP4.below).lt (by rw [HM.out]; omega)).2 k (by rw [HM.out]; exact hlt); have HP4 := Lib.hid hP4; have HL4 := Lib.hid hlen; clear hA hP4 hlen hcell)
        have HL5 : Hid ((lenI (R ++ [(b, c)])).length = L + 1) := by show _ = _; rw [lenI_snoc]; exact HL4.out
        have HP5 : Hid (Piled w (lenI (R ++ [(b, c)])) X' c' w4) := by show Piled _ _ _ _ _; rw [lenI_snoc]; exact HP4.out
        clear HL4 HP4
        go_roundw
        case rel => exact ⟨k + 1, L + 1, 1, c', bth bs k, X', R ++ [(b, c)], by omega, by omega, by omega, rfl, rfl, rfl, by go_num, HN, HL5, HP5⟩
        case measure => simp [intOf]; omega
    · have hkm : k = m := by omega
      subst hkm
      have hR0 := HR.out
      rw [List.take_of_length_le (by rw [HM.out]; omega)] at hR0
      by_cases hc0 : 0 < c
      · have HE : Hid (runsInts bs = lenI R ++ [(c : Int)]) := by
          show _ = _
          rw [runsInts, runsL, hR0, if_pos hc0, List.map_append]
          rfl
        clear hR0
        go_wp2_with (at_builtin; refine wpList_app_ints rfl (.tmp 36) (.tmp 38) rfl _ w.heap.size X cx (lenI R) (by rw [HL.out]; rfl) _ _ [(c : Int)] rfl (HP.out.own.alloc _) (one_new _ _) (by rw [HL.out]; simp; omega) (by simp; omega) (by simp) ?_; intro v w4 hA)
        obtain ⟨X', c', rfl, hP4⟩ := HP.out.app _ hA
        have HP4 := Lib.hid hP4
        clear hA hP4
        go_wp2
        go_ret
        exact ⟨X', c', by rw [HE.out]; rfl, by rw [HE.out]; exact HP4.out.own, HP4.out.below⟩
      · have HE : Hid (runsInts bs = lenI R) := by
          show _ = _
          rw [runsInts, runsL, hR0, if_neg hc0, List.append_nil]
          rfl
        have hc00 : c = 0 := by omega
        subst hc00
        clear hR0
        go_wp2
        go_ret
        exact ⟨X, cx, by rw [HE.out, HL.out]; rfl, by rw [HE.out]; exact HP.out.own, HP.out.below⟩

set_option maxHeartbeats 400000 in
theorem sbitsRuns_no (A : Option Addr) (len cap : Nat) (w : World) (h : 16 < len) (hm : len ≤ maxLen) :
    Calls Try.prog 11 #[.slice A len cap] w (RetInts w []) := by
  unfold maxLen at hm
  go_enter Try.func11, Try.ntmps11
  go_wp2
  go_ret
  exact ⟨_, 0, rfl, OwnInts.new w, (Below.refl _ _).alloc (Nat.le_refl _) _⟩

theorem sbitsRuns_any (A : Option Addr) (cap : Nat) (bs : List Bool) (w : World) (hI : BoolsAt w w.heap.size A bs) (hm : bs.length ≤ maxLen) :
    Calls Try.prog 11 #[.slice A bs.length cap] w (RetInts w (runsOr bs)) := by
  by_cases h : bs.length ≤ 16
  · rw [runsOr_yes h]; exact sbitsRuns_yes A cap bs w h hI
  · rw [runsOr_no (by omega)]; exact sbitsRuns_no A bs.length cap w (by omega) hm

end Go.Proofs.Ytmepbogfdpmfaaa
