/- Contract of the model's order of blocks. Conditions: the bits lie in memory. -/
import Derived.Test.YtgjnhfciphiciaaSRare
import Derived.Test.YtgjnhfciphiciaaRarePick
namespace Go.Proofs.Ytgjnhfciphiciaa
open Go.RowKit
set_option linter.unusedVariables false

def ordZ (ps : List (List Bool)) (mine : List Bool) (m : Nat) : List Int := natZ ((orderTo ps mine m).map (· % 16))
theorem ordP_at (ps : List (List Bool)) (mine : List Bool) (n b : Nat) (hb : b < 16) : ordP ps mine (n * 16 + b) = (decide (0 < n) && (decide (cntB ps b = n) && !bth mine b)) := by
  have e1 : (n * 16 + b) / 16 = n := by omega
  have e2 : (n * 16 + b) % 16 = b := by omega
  unfold ordP
  rw [e1, e2]
theorem ordZ_yes {ps : List (List Bool)} {mine : List Bool} {n b : Nat} (hn : 0 < n) (hb : b < 16) (h1 : bth mine b = false) (h2 : cntB ps b = n) : ordZ ps mine (n * 16 + (b + 1)) = ordZ ps mine (n * 16 + b) ++ [(b : Int)] := by
  have e : (n * 16 + b) % 16 = b := by omega
  unfold ordZ natZ
  rw [← Nat.add_assoc, orderTo_yes (by rw [ordP_at ps mine n b hb, h1, decide_eq_true h2, decide_eq_true hn]; rfl), List.map_append, List.map_append]
  show _ ++ [(((n * 16 + b) % 16 : Nat) : Int)] = _
  rw [e]
theorem ordZ_has {ps : List (List Bool)} {mine : List Bool} {n b : Nat} (hb : b < 16) (h1 : bth mine b = true) : ordZ ps mine (n * 16 + (b + 1)) = ordZ ps mine (n * 16 + b) := by
  unfold ordZ
  rw [← Nat.add_assoc, orderTo_no (by rw [ordP_at ps mine n b hb, h1]; simp)]
theorem ordZ_ne {ps : List (List Bool)} {mine : List Bool} {n b : Nat} (hb : b < 16) (h2 : ¬ cntB ps b = n) : ordZ ps mine (n * 16 + (b + 1)) = ordZ ps mine (n * 16 + b) := by
  unfold ordZ
  rw [← Nat.add_assoc, orderTo_no (by rw [ordP_at ps mine n b hb, decide_eq_false h2]; simp)]
theorem ordZ_first (ps : List (List Bool)) (mine : List Bool) : ordZ ps mine (1 * 16) = [] := by unfold ordZ; rw [Nat.one_mul, orderTo_first]; rfl
theorem ordZ_all {ps : List (List Bool)} {mine : List Bool} {n : Nat} (hn : ps.length = n) (h : okP ps = true ∧ mine.length ≤ 16) : ordZ ps mine ((n + 1) * 16) = natZ (orderN ps mine) := by
  unfold ordZ orderN orderK
  rw [if_pos h, hn]

set_option maxHeartbeats 4000000 in
set_option maxRecDepth 100000 in
theorem sorder_any (A : Option Addr) (cap : Nat) (hs : List PH) (M : Option Addr) (mc : Nat) (mine : List Bool) (w : World) (hP : PAt w w.heap.size A hs) (hM : BoolsAt w w.heap.size M mine) :
    Calls Try.prog 19 #[.slice A hs.length cap, .slice M mine.length mc] w (RetInts w (natZ (orderN (pz hs) mine))) := by
  have HP := Lib.hid hP
  have HMI := Lib.hid hM
  have C1 : Hid (∀ W, Below w.heap.size w W → Calls Try.prog 33 #[.slice A hs.length cap] W fun e w' => e = .returned (.bool (okP (pz hs))) ∧ w' = W) := fun W hW => speers_any A cap hs W _ (HP.out.below hW (Nat.le_refl _))
  have C2 : Hid (∀ (k : Nat) (W : World), Below w.heap.size w W → Calls Try.prog 35 #[.slice A hs.length cap, .int .i64 (k : Int)] W fun e w'' => e = .returned (.int .i64 ((cntB (pz hs) k : Nat) : Int)) ∧ w'' = W) := fun k W hW => scount_any A cap k hs W _ (HP.out.below hW (Nat.le_refl _))
  have C3 : Hid (∀ (k : Nat) (W : World), Below w.heap.size w W → Calls Try.prog 40 #[.slice M mine.length mc, .int .i64 (k : Int)] W fun e w'' => e = .returned (.bool (bth mine k)) ∧ w'' = W) := fun k W hW => bat_any M mc k mine W _ (HMI.out.below hW (Nat.le_refl _))
  have HZ0 : Hid ((pz hs).length = hs.length) := pz_length hs
  have HB0 : Hid (Below w.heap.size w (w.alloc (.cells #[] 3))) := (Below.refl _ w).alloc (Nat.le_refl _) _
  obtain ⟨n, HN⟩ : ∃ n, Hid (hs.length = n) := ⟨_, rfl⟩
  obtain ⟨m, HM⟩ : ∃ m, Hid (mine.length = m) := ⟨_, rfl⟩
  rw [HN.out] at C1 C2 HZ0 ⊢
  rw [HM.out] at C3 ⊢
  have FIN : Hid (¬ (okP (pz hs) = true ∧ m ≤ 16) → RetInts w (natZ (orderN (pz hs) mine)) (.returned (.slice (some ⟨w.heap.size, 0, none⟩) 0 0)) (w.alloc (.cells #[] 3))) := fun h => by
    have e : orderN (pz hs) mine = [] := by unfold orderN; rw [if_neg (by rw [HM.out]; exact h)]
    rw [e]
    exact ⟨_, 0, rfl, OwnInts.new w, (Below.refl _ _).alloc (Nat.le_refl _) _⟩
  clear hP hM
  have C10 := Lib.hid (C1.out _ HB0.out)
  cases hok : okP (pz hs) with
  | false =>
    rw [hok] at C10
    have FIN' := Lib.hid (FIN.out (by rw [hok]; exact fun h => by cases h.1))
    clear hok
    go_enter Try.func19, Try.ntmps19
    go_wp2_with fail
    refine C10.out.mono ?_
    rintro e w1 ⟨rfl, rfl⟩
    go_wp2
    go_ret
    exact FIN'.out
  | true =>
    rw [hok] at C10
    by_cases hm : m ≤ 16
    · have hmi : ¬ (16 : Int) < (m : Int) := by omega
      have HFO : Hid (ordZ (pz hs) mine ((n + 1) * 16) = natZ (orderN (pz hs) mine)) := ordZ_all HZ0.out ⟨hok, by rw [HM.out]; exact hm⟩
      have HON : Hid (okP (pz hs) = true) := hok
      have hn6 : n ≤ 6 := by have := ((okP_iff _).1 hok).1; rw [HZ0.out] at this; exact this
      clear hok FIN
      obtain ⟨W, HW⟩ : ∃ W, Hid (W = w.alloc (.cells #[] 3)) := ⟨_, rfl⟩
      have HO0 : Hid (OwnInts W w.heap.size (some ⟨w.heap.size, 0, none⟩) 0 (ordZ (pz hs) mine (1 * 16))) := by rw [HW.out, ordZ_first]; exact OwnInts.new w
      have HL0 : Hid ((ordZ (pz hs) mine (1 * 16)).length = 0) := by show _ = _; rw [ordZ_first]; rfl
      rw [← HW.out] at C10 HB0
      go_enter Try.func19, Try.ntmps19
      go_upto_region 2 with fail
      rw [← HW.out]
      go_wp2_with fail
      refine C10.out.mono ?_
      rintro e w1 ⟨rfl, rfl⟩
      clear C10
      go_wp2
      go_loopw [5, 6] (fun p i w' => ∃ (k L c : Nat) (X : Option Addr), 1 ≤ k ∧ k ≤ n + 1 ∧ L ≤ k * 16 ∧ i = .int .i64 (k : Int) ∧ p = .slice X L c ∧ Hid ((ordZ (pz hs) mine (k * 16)).length = L) ∧ Hid (OwnInts w' w.heap.size X c (ordZ (pz hs) mine (k * 16))) ∧ Hid (Below w.heap.size w w')) (fun _ i _ => n + 1 - (intOf i).toNat)
      case atStart => exact ⟨1, 0, 0, _, by omega, by omega, by omega, rfl, rfl, HL0, HO0, HB0⟩
      case round =>
        obtain ⟨k, L, c, X, hk1, hkn, hLk, rfl, rfl, HL, HO, HB⟩ := hrel
        by_cases hlt : k ≤ n
        · have hki : (k : Int) ≤ (n : Int) := by omega
          go_wp2
          go_loopw [5, 7] (fun p i w' => ∃ (b L c : Nat) (X : Option Addr), b ≤ 16 ∧ L ≤ k * 16 + b ∧ i = .int .i64 (b : Int) ∧ p = .slice X L c ∧ Hid ((ordZ (pz hs) mine (k * 16 + b)).length = L) ∧ Hid (OwnInts w' w.heap.size X c (ordZ (pz hs) mine (k * 16 + b))) ∧ Hid (Below w.heap.size w w')) (fun _ i _ => 16 - (intOf i).toNat)
          case atStart => exact ⟨0, L, c, X, by omega, by omega, rfl, rfl, HL, HO, HB⟩
          case round =>
            clear HL HO HB hLk
            obtain ⟨b, L, c, X, hb, hLb, rfl, rfl, HL, HO, HB⟩ := hrel
            by_cases hbt : b < 16
            · have hbi : (b : Int) < 16 := by omega
              have C4 := Lib.hid (C3.out b _ HB.out)
              have C5 := Lib.hid (C2.out b _ HB.out)
              have hsz := HB.out.size
              obtain ⟨d, HD⟩ : ∃ d, Hid (cntB (pz hs) b = d) := ⟨_, rfl⟩
              rw [HD.out] at C5
              cases hv : bth mine b with
              | true =>
                rw [hv] at C4
                have he := ordZ_has (ps := pz hs) (n := k) hbt hv
                have HL' : Hid ((ordZ (pz hs) mine (k * 16 + (b + 1))).length = L) := by show _ = _; rw [he]; exact HL.out
                have HO' : Hid (OwnInts wr w.heap.size X c (ordZ (pz hs) mine (k * 16 + (b + 1)))) := by show OwnInts _ _ _ _ _; rw [he]; exact HO.out
                clear hv he HL HO
                go_wp2_with fail
                refine C4.out.mono ?_
                rintro e w2 ⟨rfl, rfl⟩
                go_wp2
                go_roundw
                case rel => exact ⟨b + 1, L, c, X, by omega, by omega, by go_num, rfl, HL', HO', HB⟩
                case measure => simp [intOf]; omega
              | false =>
                rw [hv] at C4
                by_cases hd : d = k
                · have HE := Lib.hid (ordZ_yes (ps := pz hs) hk1 hbt hv (HD.out.trans hd))
                  subst hd
                  clear hv
                  go_wp2_with fail
                  refine C4.out.mono ?_
                  rintro e w2 ⟨rfl, rfl⟩
                  go_wp2_with fail
                  refine C5.out.mono ?_
                  rintro e w2 ⟨rfl, rfl⟩
                  go_wp2_with (at_builtin; refine wpList_app_ints rfl (.tmp 39) (.tmp 41) rfl _ w.heap.size X c (ordZ (pz hs) mine (d * 16 + b)) (by rw [HL.out]; rfl) _ _ [(b : Int)] rfl (HO.out.alloc _) (one_new _ _) (by rw [HL.out]; simp; omega) (by simp; omega) (by simp) ?_; intro v w4 hA)
                  obtain ⟨⟨X', c', rfl, hO4⟩, hg4, hb4⟩ := hA
                  have hlen : (ordZ (pz hs) mine (d * 16 + b) ++ [(b : Int)]).length = L + 1 := by rw [List.length_append, HL.out]; rfl
                  have HB4 : Hid (Below w.heap.size w w4) := (HB.out.alloc hsz _).trans hb4
                  rw [hlen]
                  rw [← HE.out] at hO4 hlen
                  have HO4 := Lib.hid hO4
                  have HL4 := Lib.hid hlen
                  clear hg4 hb4 hO4 hlen
                  go_wp2
                  go_roundw
                  case rel => exact ⟨b + 1, L + 1, c', X', by omega, by omega, by go_num, rfl, HL4, HO4, HB4⟩
                  case measure => simp [intOf]; omega
                · have hdi : ¬ (d : Int) = (k : Int) := by omega
                  have hdb : ((d : Int) == (k : Int)) = false := by simp; omega
                  have he := ordZ_ne (mine := mine) (n := k) hbt (by rw [HD.out]; exact hd)
                  have HL' : Hid ((ordZ (pz hs) mine (k * 16 + (b + 1))).length = L) := by show _ = _; rw [he]; exact HL.out
                  have HO' : Hid (OwnInts wr w.heap.size X c (ordZ (pz hs) mine (k * 16 + (b + 1)))) := by show OwnInts _ _ _ _ _; rw [he]; exact HO.out
                  clear hv he HL HO
                  go_wp2_with fail
                  refine C4.out.mono ?_
                  rintro e w2 ⟨rfl, rfl⟩
                  go_wp2_with fail
                  refine C5.out.mono ?_
                  rintro e w2 ⟨rfl, rfl⟩
                  go_wp2
                  go_roundw
                  case rel => exact ⟨b + 1, L, c, X, by omega, by omega, by go_num, rfl, HL', HO', HB⟩
                  case measure => simp [intOf]; omega
            · have hb16 : b = 16 := by omega
              subst hb16
              have e16 : k * 16 + 16 = (k + 1) * 16 := by omega
              rw [e16] at HL HO hLb
              go_wp2
              go_roundw
              case rel => exact ⟨k + 1, L, c, X, by omega, by omega, hLb, by go_num, rfl, HL, HO, HB⟩
              case measure => simp [intOf]; omega
        · have hkn' : k = n + 1 := by omega
          subst hkn'
          rw [HFO.out] at HL HO
          go_wp2
          go_ret
          exact ⟨X, c, by rw [HL.out]; rfl, HO.out, HB.out⟩
    · have hmi : (16 : Int) < (m : Int) := by omega
      have FIN' := Lib.hid (FIN.out (fun h => hm h.2))
      clear hok
      go_enter Try.func19, Try.ntmps19
      go_wp2_with fail
      refine C10.out.mono ?_
      rintro e w1 ⟨rfl, rfl⟩
      go_wp2
      go_ret
      exact FIN'.out

end Go.Proofs.Ytgjnhfciphiciaa
