/- The model's ForkNamed, and the search in a list of integers. Conditions: the lists lie in memory. -/
import Derived.Test.YtkicfneikbiklaaNamedRows
import Derived.Test.YtkicfneikbiklaaBaseA
namespace Go.Proofs.Ytkicfneikbiklaa
open Go.RowKit
set_option linter.unusedVariables false

set_option maxHeartbeats 2000000 in
set_option maxRecDepth 100000 in
theorem l1has_any (A : Option Addr) (cap : Nat) (xs : List Int) (a : Int) (w : World) (hI : IntsAt w w.heap.size A xs) (hm : xs.length ≤ maxLen) :
    Calls Try.prog 27 #[.slice A xs.length cap, .int .i64 a] w fun e w' => e = .returned (.bool (decide (a ∈ xs))) ∧ w' = w := by
  unfold maxLen at hm
  have HI := Lib.hid hI
  obtain ⟨n, HN⟩ : ∃ n, Hid (xs.length = n) := ⟨_, rfl⟩
  rw [HN.out] at hm ⊢
  clear hI
  go_enter Try.func27, Try.ntmps27
  go_wp2
  go_loop [5] (fun i => ∃ k : Nat, k ≤ n ∧ i = .int .i64 (k : Int) ∧ Hid (a ∉ xs.take k)) (fun i => n - (intOf i).toNat)
  case atStart => exact ⟨0, Nat.zero_le _, rfl, by show a ∉ List.take 0 xs; simp⟩
  case round =>
    obtain ⟨k, hk, rfl, HK⟩ := hrel
    by_cases hlt : k < n
    · have hkz : k < xs.length := by rw [HN.out]; exact hlt
      obtain ⟨b, o, rfl, hb, hc⟩ := HI.out (by omega)
      have hck := hc k hkz
      obtain ⟨x, HX⟩ : ∃ x, Hid (nth xs k = x) := ⟨_, rfl⟩
      have HT : Hid (xs.take (k + 1) = xs.take k ++ [x]) := by
        show _ = _
        rw [List.take_succ_eq_append_getElem hkz, ← HX.out]
        unfold nth
        rw [List.getD_eq_getElem?_getD, List.getElem?_eq_getElem hkz]; rfl
      rw [HX.out] at hck
      have hki : (k : Int) < (n : Int) := by omega
      have hk0 : (0 : Int) ≤ (k : Int) := by omega
      clear hc hkz hb
      by_cases hxa : x = a
      · subst hxa
        have HM : Hid (decide (x ∈ xs) = true) := decide_eq_true (List.mem_of_mem_take (i := k + 1) (by rw [HT.out]; simp))
        have hee : (x == x) = true := by simp
        go_wp2
        go_ret
        exact ⟨ret_bool HM.out.symm, rfl⟩
      · have hne : (x == a) = false := beq_eq_false_iff_ne.2 hxa
        have HK' : Hid (a ∉ xs.take (k + 1)) := by
          show _
          rw [HT.out, List.mem_append]
          rintro (h | h)
          · exact HK.out h
          · exact hxa (List.mem_singleton.1 h).symm
        clear hxa
        go_wp2
        go_round
        case rel => exact ⟨k + 1, by omega, by go_num, HK'⟩
        case measure => simp [intOf]; omega
    · have hkn : k = n := by omega
      subst hkn
      have HM : Hid (decide (a ∈ xs) = false) := decide_eq_false (by have h := HK.out; rw [← HN.out, List.take_length] at h; exact h)
      go_wp2
      go_ret
      exact ⟨ret_bool HM.out.symm, rfl⟩

set_option maxHeartbeats 2000000 in
set_option maxRecDepth 100000 in
theorem hasInt_any (A : Option Addr) (cap : Nat) (xs : List Int) (a : Int) (w : World) (hI : IntsAt w w.heap.size A xs) (hm : xs.length ≤ maxLen) :
    Calls Try.prog 12 #[.slice A xs.length cap, .int .i64 a] w fun e w' => e = .returned (.bool (decide (a ∈ xs))) ∧ w' = w := by
  unfold maxLen at hm
  have HI := Lib.hid hI
  obtain ⟨n, HN⟩ : ∃ n, Hid (xs.length = n) := ⟨_, rfl⟩
  rw [HN.out] at hm ⊢
  clear hI
  go_enter Try.func12, Try.ntmps12
  go_wp2
  go_loop [5] (fun i => ∃ k : Nat, k ≤ n ∧ i = .int .i64 (k : Int) ∧ Hid (a ∉ xs.take k)) (fun i => n - (intOf i).toNat)
  case atStart => exact ⟨0, Nat.zero_le _, rfl, by show a ∉ List.take 0 xs; simp⟩
  case round =>
    obtain ⟨k, hk, rfl, HK⟩ := hrel
    by_cases hlt : k < n
    · have hkz : k < xs.length := by rw [HN.out]; exact hlt
      obtain ⟨b, o, rfl, hb, hc⟩ := HI.out (by omega)
      have hck := hc k hkz
      obtain ⟨x, HX⟩ : ∃ x, Hid (nth xs k = x) := ⟨_, rfl⟩
      have HT : Hid (xs.take (k + 1) = xs.take k ++ [x]) := by
        show _ = _
        rw [List.take_succ_eq_append_getElem hkz, ← HX.out]
        unfold nth
        rw [List.getD_eq_getElem?_getD, List.getElem?_eq_getElem hkz]; rfl
      rw [HX.out] at hck
      have hki : (k : Int) < (n : Int) := by omega
      have hk0 : (0 : Int) ≤ (k : Int) := by omega
      clear hc hkz hb
      by_cases hxa : x = a
      · subst hxa
        have HM : Hid (decide (x ∈ xs) = true) := decide_eq_true (List.mem_of_mem_take (i := k + 1) (by rw [HT.out]; simp))
        have hee : (x == x) = true := by simp
        go_wp2
        go_ret
        exact ⟨ret_bool HM.out.symm, rfl⟩
      · have hne : (x == a) = false := beq_eq_false_iff_ne.2 hxa
        have HK' : Hid (a ∉ xs.take (k + 1)) := by
          show _
          rw [HT.out, List.mem_append]
          rintro (h | h)
          · exact HK.out h
          · exact hxa (List.mem_singleton.1 h).symm
        clear hxa
        go_wp2
        go_round
        case rel => exact ⟨k + 1, by omega, by go_num, HK'⟩
        case measure => simp [intOf]; omega
    · have hkn : k = n := by omega
      subst hkn
      have HM : Hid (decide (a ∈ xs) = false) := decide_eq_false (by have h := HK.out; rw [← HN.out, List.take_length] at h; exact h)
      go_wp2
      go_ret
      exact ⟨ret_bool HM.out.symm, rfl⟩

/-- Does a right proof of the list name the key? -/
def hasK (xs : List KD) (k : Int) : Bool := xs.any fun r => r.p == k && okK r
def keysTo (xs : List KD) : Nat → List Int
  | 0 => []
  | m + 1 => keysTo xs m ++ (if hasK xs ((m : Int) + 1) = true then [(m : Int) + 1] else [])
def stepK (xs : List KD) (m i : Nat) : List Int := keysTo xs m ++ (if hasK (xs.take i) ((m : Int) + 1) = true then [(m : Int) + 1] else [])
theorem keysTo_le (xs : List KD) : ∀ m x, x ∈ keysTo xs m → 1 ≤ x ∧ x ≤ (m : Int)
  | 0, x, h => by simp [keysTo] at h
  | m + 1, x, h => by
    unfold keysTo at h
    rcases List.mem_append.1 h with h | h
    · have := keysTo_le xs m x h; omega
    · split at h
      · rw [List.mem_singleton] at h; omega
      · simp at h
theorem keysTo_len (xs : List KD) : ∀ m, (keysTo xs m).length ≤ m
  | 0 => Nat.le_refl _
  | m + 1 => by
    unfold keysTo
    have := keysTo_len xs m
    rw [List.length_append]
    split <;> simp <;> omega
theorem stepK_len (xs : List KD) (m i : Nat) : (stepK xs m i).length ≤ m + 1 := by
  unfold stepK
  have := keysTo_len xs m
  rw [List.length_append]
  split <;> simp <;> omega
theorem stepK_zero (xs : List KD) (m : Nat) : stepK xs m 0 = keysTo xs m := by
  unfold stepK hasK; simp
theorem stepK_all (xs : List KD) (m : Nat) : stepK xs m xs.length = keysTo xs (m + 1) := by
  unfold stepK; rw [List.take_length]; rfl
theorem hasK_step (xs : List KD) (k : Int) (i : Nat) (h : i < xs.length) : hasK (xs.take (i + 1)) k = (hasK (xs.take i) k || ((kth xs i).p == k && okK (kth xs i))) := by
  rw [take_kth xs i h]; unfold hasK; rw [List.any_append]; simp
theorem stepK_mem (xs : List KD) (m i : Nat) : ((m : Int) + 1 ∈ stepK xs m i) ↔ hasK (xs.take i) ((m : Int) + 1) = true := by
  unfold stepK
  rw [List.mem_append]
  refine ⟨?_, fun h => .inr (by rw [if_pos h]; simp)⟩
  rintro (h | h)
  · have := keysTo_le xs m _ h; omega
  · split at h
    · assumption
    · simp at h
theorem stepK_no (xs : List KD) (m i : Nat) (h : i < xs.length) (hn : ((kth xs i).p == (m : Int) + 1 && okK (kth xs i)) = false) : stepK xs m (i + 1) = stepK xs m i := by
  unfold stepK; rw [hasK_step xs _ i h, hn, Bool.or_false]
theorem stepK_has (xs : List KD) (m i : Nat) (h : i < xs.length) (hm : (m : Int) + 1 ∈ stepK xs m i) : stepK xs m (i + 1) = stepK xs m i := by
  have h1 := (stepK_mem xs m i).1 hm
  unfold stepK; rw [hasK_step xs _ i h, h1, Bool.true_or]
theorem stepK_new (xs : List KD) (m i : Nat) (h : i < xs.length) (hm : ¬ (m : Int) + 1 ∈ stepK xs m i) (hy : ((kth xs i).p == (m : Int) + 1 && okK (kth xs i)) = true) : stepK xs m (i + 1) = stepK xs m i ++ [(m : Int) + 1] := by
  have h1 : hasK (xs.take i) ((m : Int) + 1) = false := by rw [Bool.eq_false_iff]; exact fun e => hm ((stepK_mem xs m i).2 e)
  unfold stepK; rw [hasK_step xs _ i h, h1, hy]; simp

set_option maxHeartbeats 8000000 in
set_option maxRecDepth 100000 in
theorem snamed_any (A : Option Addr) (cap : Nat) (xs : List KD) (w : World) (hI : RowAt KK w w.heap.size A xs) (hl : xs.length ≤ 2000000) :
    Calls Try.prog 9 #[.slice A xs.length cap] w fun e w' => ∃ X c, e = .returned (.slice X (keysTo xs 996).length c) ∧ OwnInts w' w.heap.size X c (keysTo xs 996) ∧ Below w.heap.size w w' := by
  have HI := Lib.hid hI
  obtain ⟨n, HN⟩ : ∃ n, Hid (xs.length = n) := ⟨_, rfl⟩
  rw [HN.out] at hl ⊢
  clear hI
  go_enter Try.func9, Try.ntmps9
  go_wp2
  go_loopw [3, 4] (fun p i w' => ∃ (m L c : Nat) (X : Option Addr), m ≤ 996 ∧ i = .int .i64 ((m : Int) + 1) ∧ p = .slice X L c ∧ Hid ((keysTo xs m).length = L) ∧ Hid (OwnInts w' w.heap.size X c (keysTo xs m)) ∧ Hid (Below w.heap.size w w')) (fun _ i _ => 1000 - (intOf i).toNat)
  case atStart => exact ⟨0, 0, 0, _, by omega, rfl, rfl, rfl, OwnInts.new w, (Below.refl _ _).alloc (Nat.le_refl _) _⟩
  case round =>
    obtain ⟨m, L, c, X, hm, rfl, rfl, HL, HO, HB⟩ := hrel
    by_cases hlt : m < 996
    · have hmi : (m : Int) + 1 < 997 := by omega
      obtain ⟨M, HM⟩ : ∃ M, Hid ((m : Int) + 1 = M) := ⟨_, rfl⟩
      have hM0 : 1 ≤ M := by rw [← HM.out]; omega
      have hM1 : M ≤ 996 := by rw [← HM.out]; omega
      rw [HM.out] at hmi ⊢
      have HOs : Hid (OwnInts wr w.heap.size X c (stepK xs m 0)) := by rw [stepK_zero]; exact HO.out
      have HLs : Hid ((stepK xs m 0).length = L) := by show _ = _; rw [stepK_zero]; exact HL.out
      go_wp2
      go_loopw [3, 5] (fun p i w' => ∃ (j L c : Nat) (X : Option Addr), j ≤ n ∧ i = .int .i64 (j : Int) ∧ p = .slice X L c ∧ Hid ((stepK xs m j).length = L) ∧ Hid (OwnInts w' w.heap.size X c (stepK xs m j)) ∧ Hid (Below w.heap.size w w')) (fun _ i _ => n - (intOf i).toNat)
      case atStart => exact ⟨0, L, c, X, Nat.zero_le _, rfl, rfl, HLs, HOs, HB⟩
      case round =>
        obtain ⟨j, L2, c2, X2, hj, rfl, rfl, HL2, HO2, HB2⟩ := hrel
        have hL2 : L2 ≤ 997 := by have := stepK_len xs m j; rw [HL2.out] at this; omega
        by_cases hjn : j < n
        · have hjx : j < xs.length := by rw [HN.out]; exact hjn
          obtain ⟨b, o, rfl⟩ := HI.out.some_ (by omega)
          obtain ⟨q0, q1, q2, q3, q4, q5, q6⟩ := fork_seven (HI.out.belowS HB2.out) j hjx
          have HJX := Lib.hid hjx
          obtain ⟨r, HR⟩ : ∃ r, Hid (kth xs j = r) := ⟨_, rfl⟩
          rw [HR.out] at q0 q1 q2 q3 q4 q5 q6
          have hjn2 : (j : Int) < (n : Int) := by omega
          have hj0 : (0 : Int) ≤ (j : Int) := by omega
          clear hjx
          cases hp : (r.p == M) with
          | false =>
            have HS : Hid (stepK xs m (j + 1) = stepK xs m j) := stepK_no xs m j HJX.out (by rw [HR.out, HM.out, hp]; rfl)
            have HL3 : Hid ((stepK xs m (j + 1)).length = L2) := by show _ = _; rw [HS.out]; exact HL2.out
            have HO3 : Hid (OwnInts wr w.heap.size X2 c2 (stepK xs m (j + 1))) := by rw [HS.out]; exact HO2.out
            go_wp2_with fail
            go_roundw
            case rel => exact ⟨j + 1, L2, c2, X2, by omega, by go_num, rfl, HL3, HO3, HB2⟩
            case measure => simp [intOf]; omega
          | true =>
            cases hok : forkB r.p r.a r.b r.c r.x r.y r.z with
            | false =>
              have HS : Hid (stepK xs m (j + 1) = stepK xs m j) := stepK_no xs m j HJX.out (by rw [HR.out, HM.out, hp]; exact hok)
              have HL3 : Hid ((stepK xs m (j + 1)).length = L2) := by show _ = _; rw [HS.out]; exact HL2.out
              have HOK := Lib.hid hok
              clear hok
              go_wp2_with fail
              refine (sforkCheck_any r.p r.a r.b r.c r.x r.y r.z _).mono ?_
              rintro e w1 ⟨rfl, hb1⟩
              rw [HOK.out]
              have HO3 : Hid (OwnInts w1 w.heap.size X2 c2 (stepK xs m (j + 1))) := by rw [HS.out]; exact HO2.out.below hb1
              have HB3 : Hid (Below w.heap.size w w1) := HB2.out.trans (hb1.mono HB2.out.size)
              clear hb1 q0 q1 q2 q3 q4 q5 q6
              go_wp2_with fail
              go_roundw
              case rel => exact ⟨j + 1, L2, c2, X2, by omega, by go_num, rfl, HL3, HO3, HB3⟩
              case measure => simp [intOf]; omega
            | true =>
              have HY : Hid (((kth xs j).p == (m : Int) + 1 && okK (kth xs j)) = true) := by show _ = _; rw [HR.out, HM.out, hp]; exact hok
              have HOK := Lib.hid hok
              clear hok
              go_wp2_with fail
              refine (sforkCheck_any r.p r.a r.b r.c r.x r.y r.z _).mono ?_
              rintro e w1 ⟨rfl, hb1⟩
              rw [HOK.out]
              have HO3 := Lib.hid (HO2.out.below hb1)
              have HB3 : Hid (Below w.heap.size w w1) := HB2.out.trans (hb1.mono HB2.out.size)
              clear hb1 q0 q1 q2 q3 q4 q5 q6
              have CH : Hid (Calls Try.prog 27 #[.slice X2 L2 c2, .int .i64 M] w1 fun e w' => e = .returned (.bool (decide (M ∈ stepK xs m j))) ∧ w' = w1) := by
                have h := l1has_any X2 c2 (stepK xs m j) M w1 HO3.out.ints (by rw [HL2.out]; unfold maxLen; omega)
                rw [HL2.out] at h
                exact h
              go_wp2_with fail
              refine CH.out.mono ?_
              rintro e w' ⟨rfl, rfl⟩
              cases hmem : decide (M ∈ stepK xs m j) with
              | true =>
                have HS : Hid (stepK xs m (j + 1) = stepK xs m j) := stepK_has xs m j HJX.out (by rw [HM.out]; exact of_decide_eq_true hmem)
                have HL4 : Hid ((stepK xs m (j + 1)).length = L2) := by show _ = _; rw [HS.out]; exact HL2.out
                have HO4 : Hid (OwnInts w' w.heap.size X2 c2 (stepK xs m (j + 1))) := by rw [HS.out]; exact HO3.out
                clear hmem
                go_wp2_with fail
                go_roundw
                case rel => exact ⟨j + 1, L2, c2, X2, by omega, by go_num, rfl, HL4, HO4, HB3⟩
                case measure => simp [intOf]; omega
              | false =>
                have HS : Hid (stepK xs m (j + 1) = stepK xs m j ++ [M]) := by show _ = _; rw [stepK_new xs m j HJX.out (by rw [HM.out]; exact of_decide_eq_false hmem) HY.out, HM.out]
                clear hmem
                have hsz := HB3.out.size
                go_wp2_with (at_builtin; refine wpList_app_ints rfl (.tmp 37) (.tmp 39) rfl _ w.heap.size X2 c2 (stepK xs m j) (by rw [HL2.out]; rfl) _ _ [M] rfl (HO3.out.alloc _) (one_new _ _) (by rw [HL2.out]; simp; omega) (by simp; omega) (by simp) ?_; intro v w4 hA; obtain ⟨⟨X4, c4, rfl, hown4⟩, hg4, hb4⟩ := hA; have HO4 := Lib.hid hown4; have HB4 : Hid (Below w.heap.size w w4) := (HB3.out.alloc HB3.out.size _).trans (by first | exact hb4 | exact hb4.mono (by simp; omega)); clear hown4 hg4 hb4)
                have hlen : (stepK xs m j ++ [M]).length = L2 + 1 := by rw [List.length_append, HL2.out]; rfl
                have HL4 : Hid ((stepK xs m (j + 1)).length = L2 + 1) := by show _ = _; rw [HS.out]; exact hlen
                rw [← HS.out] at HO4
                (try rw [hlen])
                clear hlen
                go_wp2_with fail
                go_roundw
                case rel => exact ⟨j + 1, L2 + 1, c4, X4, by omega, by go_num, by first | rfl | (simp; exact HL2.out) | (simp [HL2.out]), HL4, HO4, HB4⟩
                case measure => simp [intOf]; omega
        · have hjn2 : j = n := by omega
          subst hjn2
          have HS : Hid (stepK xs m j = keysTo xs (m + 1)) := by show _ = _; rw [← HN.out]; exact stepK_all xs m
          have HL3 : Hid ((keysTo xs (m + 1)).length = L2) := by show _ = _; rw [← HS.out]; exact HL2.out
          have HO3 : Hid (OwnInts wr w.heap.size X2 c2 (keysTo xs (m + 1))) := by rw [← HS.out]; exact HO2.out
          have hw1 : IntKind.i64.wrap (M + 1) = M + 1 := IntWalk.i64_in _ (by omega)
          go_wp2_with fail
          go_roundw
          case rel => exact ⟨m + 1, L2, c2, X2, by omega, by first | (rw [← HM.out]; go_num) | (rw [← HM.out]; simp) | go_num, rfl, HL3, HO3, HB2⟩
          case measure => first | (rw [← HM.out]; simp [intOf]; omega) | (simp [intOf]; omega)
    · have hm9 : m = 996 := by omega
      subst hm9
      go_wp2_with fail
      go_ret
      exact ⟨X, c, by rw [HL.out]; rfl, HO.out, HB.out⟩

end Go.Proofs.Ytkicfneikbiklaa
