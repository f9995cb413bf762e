/- Contracts of the model's functions of serving peers. Condition: the numbers lie in memory. -/
import Derived.Test.YtgmaegcnbebcnaaServeMath
import Derived.Test.YtgmaegcnbebcnaaHas
import Derived.Test.YtgmaegcnbebcnaaBaseA
import Derived.BigQuiet
import Derived.Deep.LoopGhost
import Derived.Deep.DeepCutAuto
import Derived.Lib.Hide
namespace Go.Proofs.Ytgmaegcnbebcnaa
open Go.RowKit
set_option linter.unusedVariables false

/-- Whether the first k numbers are small. -/
theorem okG_by (gs : List Int) : okG gs = (decide (gs.length ≤ 6) && gs.all (fun x => decide (0 ≤ x) && decide (x ≤ 99))) := rfl
theorem allIn_iff (gs : List Int) : gs.all (fun x => decide (0 ≤ x) && decide (x ≤ 99)) = true ↔ ∀ j, j < gs.length → (decide (0 ≤ nth gs j) && decide (nth gs j ≤ 99)) = true := by
  rw [List.all_eq_true]
  constructor
  · intro h j hj
    refine h _ ?_
    unfold nth
    rw [List.getD_eq_getElem?_getD, List.getElem?_eq_getElem hj]
    exact List.getElem_mem hj
  · intro h x hx
    obtain ⟨j, hj, rfl⟩ := List.mem_iff_getElem.1 hx
    have := h j hj
    unfold nth at this
    rwa [List.getD_eq_getElem?_getD, List.getElem?_eq_getElem hj] at this

set_option maxHeartbeats 2000000 in
set_option maxRecDepth 100000 in
theorem sgiven_any (A : Option Addr) (cap : Nat) (gs : List Int) (n : Nat) (w : World) (B : Nat) (hI : IntsAt w B A gs) (hn : gs.length = n) (hm : n ≤ 1048576) :
    Calls Try.prog 19 #[.slice A n cap] w fun e w' => e = .returned (.bool (okG gs)) ∧ w' = w := by
  have HI := Lib.hid hI
  have HN := Lib.hid hn
  clear hI hn
  go_enter Try.func19, Try.ntmps19
  go_wp2
  go_loopw [3] (fun i w' => ∃ k : Nat, k ≤ n ∧ i = .int .i64 (k : Int) ∧ Hid (w' = w) ∧ Hid (∀ j, j < k → (decide (0 ≤ nth gs j) && decide (nth gs j ≤ 99)) = true)) (fun i _ => n - (intOf i).toNat)
  case atStart => exact ⟨0, Nat.zero_le _, rfl, (by first | exact Lib.hid trivial | exact Lib.hid rfl), fun j hj => absurd hj (Nat.not_lt_zero _)⟩
  case round =>
    obtain ⟨k, hk, rfl, HW, HA⟩ := hrel
    have hw : wr = w := HW.out
    subst hw
    clear HW
    by_cases hlt : k < n
    · have hkz : k < gs.length := by rw [HN.out]; exact hlt
      obtain ⟨b, o, rfl, hb, hc⟩ := HI.out (by omega)
      have hck := hc k hkz
      obtain ⟨x, HX⟩ : ∃ x, Hid (nth gs k = x) := ⟨_, rfl⟩
      rw [HX.out] at hck
      have hki : (k : Int) < (n : Int) := by omega
      have hk0 : (0 : Int) ≤ (k : Int) := by omega
      have C := l6in_any x 0 99 wr
      obtain ⟨r, HR⟩ : ∃ r, Hid ((decide (0 ≤ x) && decide (x ≤ 99)) = r) := ⟨_, rfl⟩
      rw [HR.out] at C
      have HC := Lib.hid C
      clear hc hb hkz C
      cases r with
      | true =>
        go_wp2_with fail
        refine HC.out.mono ?_
        rintro e w1 ⟨rfl, hw1⟩
        cases hw1
        go_wp2
        go_roundw
        case rel =>
          refine ⟨k + 1, by omega, by go_num, (by first | exact Lib.hid trivial | exact Lib.hid rfl), fun j hj => ?_⟩
          by_cases e : j = k
          · subst e; rw [HX.out]; exact HR.out
          · exact HA.out j (by omega)
        case measure => simp [intOf]; omega
      | false =>
        have HF : Hid (okG gs = false) := by
          show _ = _
          rw [okG_by]
          cases e : gs.all (fun x => decide (0 ≤ x) && decide (x ≤ 99)) with
          | false => rw [Bool.and_false]
          | true =>
            have := (allIn_iff gs).1 e k (by rw [HN.out]; exact hlt)
            rw [HX.out, HR.out] at this
            cases this
        go_wp2_with fail
        refine HC.out.mono ?_
        rintro e w1 ⟨rfl, hw1⟩
        cases hw1
        go_wp2
        go_ret
        exact ⟨by rw [HF.out]; rfl, rfl⟩
    · have hkn : k = n := by omega
      subst hkn
      have HE : Hid (okG gs = decide (k ≤ 6)) := by
        show _ = _
        rw [okG_by, HN.out, (allIn_iff gs).2 (fun j hj => HA.out j (by rw [HN.out] at hj; exact hj)), Bool.and_true]
      by_cases h6 : k ≤ 6
      · have h6z : (k : Int) ≤ 6 := by omega
        go_wp2
        go_ret
        exact ⟨by rw [HE.out, decide_eq_true h6]; simp, rfl⟩
      · have h6z : ¬ (k : Int) ≤ 6 := by omega
        go_wp2
        go_ret
        exact ⟨by rw [HE.out, decide_eq_false h6]; simp, rfl⟩

/-- The best peer of the first i that are not in a list, or none. -/
def BestOf (gs : List Int) (out : List Nat) (i : Nat) (kk : Int) : Prop :=
  (kk = -1 ∧ ∀ j, j < i → j ∈ out) ∨ ∃ k : Nat, kk = (k : Int) ∧ k < i ∧ k ∉ out ∧ ∀ j, j < i → j ∉ out → j ≠ k → bef gs k j
theorem bestOf_zero (gs : List Int) (out : List Nat) : BestOf gs out 0 (-1) := .inl ⟨rfl, fun j hj => absurd hj (Nat.not_lt_zero _)⟩
theorem bestOf_skip {gs : List Int} {out : List Nat} {i : Nat} {kk : Int} (h : BestOf gs out i kk) (hi : i ∈ out) : BestOf gs out (i + 1) kk := by
  rcases h with ⟨h1, h2⟩ | ⟨k, h1, h2, h3, h4⟩
  · refine .inl ⟨h1, fun j hj => ?_⟩
    by_cases e : j = i
    · exact e ▸ hi
    · exact h2 j (by omega)
  · refine .inr ⟨k, h1, by omega, h3, fun j hj hn hne => ?_⟩
    by_cases e : j = i
    · exact absurd (e ▸ hi) hn
    · exact h4 j (by omega) hn hne
theorem bestOf_first {gs : List Int} {out : List Nat} {i : Nat} {kk : Int} (h : BestOf gs out i kk) (hk : kk < 0) (hi : i ∉ out) : BestOf gs out (i + 1) (i : Int) := by
  rcases h with ⟨h1, h2⟩ | ⟨k, h1, _⟩
  · refine .inr ⟨i, rfl, by omega, hi, fun j hj hn hne => ?_⟩
    exact absurd (h2 j (by omega)) hn
  · omega
theorem bestOf_more {gs : List Int} {out : List Nat} {i k : Nat} (h : BestOf gs out i (k : Int)) (hg : nth gs k < nth gs i) (hi : i ∉ out) : BestOf gs out (i + 1) (i : Int) := by
  rcases h with ⟨h1, _⟩ | ⟨k', h1, h2, h3, h4⟩
  · omega
  · have e : k' = k := by omega
    subst e
    refine .inr ⟨i, rfl, by omega, hi, fun j hj hn hne => ?_⟩
    have hb : bef gs i k' := .inl hg
    by_cases e : j = k'
    · exact e ▸ hb
    · exact bef_trans hb (h4 j (by omega) hn e)
theorem bestOf_stay {gs : List Int} {out : List Nat} {i k : Nat} (h : BestOf gs out i (k : Int)) (hg : ¬ nth gs k < nth gs i) : BestOf gs out (i + 1) (k : Int) := by
  rcases h with ⟨h1, _⟩ | ⟨k', h1, h2, h3, h4⟩
  · omega
  · have e : k' = k := by omega
    subst e
    refine .inr ⟨k', rfl, by omega, h3, fun j hj hn hne => ?_⟩
    by_cases e : j = i
    · subst e; unfold bef; omega
    · exact h4 j (by omega) hn hne
theorem bestOf_lt {gs : List Int} {out : List Nat} {i : Nat} {kk : Int} (h : BestOf gs out i kk) (hk : ¬ kk < 0) : ∃ k : Nat, kk = (k : Int) ∧ k < i := by
  rcases h with ⟨h1, _⟩ | ⟨k, h1, h2, _⟩
  · omega
  · exact ⟨k, h1, h2⟩
/-- The search in the first m of the ranks finds the next one. -/
theorem best_next {gs : List Int} {m : Nat} {kk : Int} (hm : m < gs.length) (h : BestOf gs ((rankL gs).take m) gs.length kk) : ∃ k : Nat, kk = (k : Int) ∧ (rankL gs).take (m + 1) = (rankL gs).take m ++ [k] := by
  have hl : m < (rankL gs).length := by rw [rankL_length]; exact hm
  have hr : (rankL gs)[m] ∉ (rankL gs).take m := fun hc => by
    have := (mem_best.1 hc).2
    rw [ahead_at hl] at this
    omega
  have hrn : (rankL gs)[m] < gs.length := rank_lt (List.getElem_mem hl)
  rcases h with ⟨_, h2⟩ | ⟨k, h1, h2, h3, h4⟩
  · exact absurd (h2 _ hrn) hr
  · refine ⟨k, h1, ?_⟩
    rw [List.take_succ_eq_append_getElem hl]
    by_cases e : (rankL gs)[m] = k
    · rw [e]
    · have hb := h4 _ hrn hr e
      have hk : k ∈ rankL gs := (rankL_perm gs).mem_iff.2 (List.mem_range.2 h2)
      obtain ⟨i, hi, rfl⟩ := List.mem_iff_getElem.1 hk
      have hmi : ¬ i < m := fun hc => h3 (mem_best.2 ⟨h2, by rw [ahead_at hi]; exact hc⟩)
      have hne : i ≠ m := fun hc => e (getElem_congr_idx hc.symm)
      exact absurd hb (bef_asymm (List.pairwise_iff_getElem.1 (rankL_sorted gs) m i hl hi (by omega)))

set_option maxHeartbeats 4000000 in
set_option maxRecDepth 100000 in
theorem sbest_any (A : Option Addr) (cap : Nat) (gs : List Int) (n : Nat) (w : World) (hI : IntsAt w w.heap.size A gs) (hn : gs.length = n) (hm : n ≤ 6) :
    Calls Try.prog 21 #[.slice A n cap] w (RetInts w (numZ (bestN gs))) := by
  have HI := Lib.hid hI
  have HN := Lib.hid hn
  clear hI hn
  go_enter Try.func21, Try.ntmps21
  go_wp2
  go_loopg [3, 4, 5] 3 (fun g1 p _ _ wr => ∃ (m : Nat) (X : Option Addr) (c : Nat), m ≤ 3 ∧ m ≤ n ∧ 3 - m ≤ g1 ∧ p = .slice X m c ∧ Hid (OwnInts wr w.heap.size X c (numZ ((rankL gs).take m))) ∧ Hid (Below w.heap.size w wr))
  case atStart => exact ⟨0, _, 0, by omega, by omega, by omega, rfl, OwnInts.new w, (Below.refl _ _).alloc (Nat.le_refl _) _⟩
  case round =>
    obtain ⟨m, X, c, hm3, hmn, hg1, rfl, HO, HB⟩ := hrel
    have hsz := HB.out.size
    have HL : Hid ((numZ ((rankL gs).take m)).length = m) := by show _ = _; rw [numZ_length, List.length_take, rankL_length, HN.out]; omega
    by_cases hd : m < 3 ∧ m < n
    · obtain ⟨hd3, hdn⟩ := hd
      have hd3z : (m : Int) < 3 := by omega
      have hdnz : (m : Int) < (n : Int) := by omega
      go_wp2
      go_loopw [4, 5] (fun k i w2 => ∃ (kk : Int) (j : Nat), k = .int .i64 kk ∧ i = .int .i64 (j : Int) ∧ j ≤ n ∧ Hid (BestOf gs ((rankL gs).take m) j kk) ∧ Hid (OwnInts w2 w.heap.size X c (numZ ((rankL gs).take m))) ∧ Hid (Below w.heap.size w w2)) (fun _ i _ => n - (intOf i).toNat)
      case atStart => exact ⟨-1, 0, rfl, rfl, Nat.zero_le _, bestOf_zero gs _, HO, HB⟩
      case round =>
        obtain ⟨kk, j, rfl, rfl, hj, HT, HO2, HB2⟩ := hrel
        by_cases hlt : j < n
        · obtain ⟨b, o, rfl, hb, hc⟩ := (HI.out.below HB2.out (Nat.le_refl _)) (by rw [HN.out]; omega)
          have hcj := hc j (by rw [HN.out]; exact hlt)
          have hji : (j : Int) < (n : Int) := by omega
          have hj0 : (0 : Int) ≤ (j : Int) := by omega
          have CH : Hid (∀ q, Calls Try.prog 23 #[.slice X m c, .int .i64 (j : Int)] (wr.drewN q) fun e w' => e = .returned (.bool (decide (j ∈ (rankL gs).take m))) ∧ w' = wr.drewN q) := by
            intro q
            have := hasS_any X c (numZ ((rankL gs).take m)) (j : Int) (wr.drewN q) (HO2.out.ints.drewN q) (by rw [HL.out]; unfold maxLen; omega)
            rw [HL.out] at this
            have e : decide ((j : Int) ∈ numZ ((rankL gs).take m)) = decide (j ∈ (rankL gs).take m) := by rw [decide_eq_decide]; exact mem_num _ _
            rwa [e] at this
          cases hin : decide (j ∈ (rankL gs).take m) with
          | true =>
            rw [hin] at CH
            have HIN := Lib.hid (of_decide_eq_true hin)
            clear hin hc
            go_wp2_with fail
            go_quiet ((go_at_call 23; refine (CH.out _).mono ?_; rintro e w' ⟨rfl, rfl⟩; exact ⟨rfl, _, rfl⟩))
            go_wp2
            go_roundw
            case rel => exact ⟨kk, j + 1, rfl, by go_num, by omega, bestOf_skip HT.out HIN.out, HO2, below_drewN HB2.out _⟩
            case measure => simp [intOf]; omega
          | false =>
            rw [hin] at CH
            have HIN := Lib.hid (of_decide_eq_false hin)
            clear hin
            by_cases hk0 : kk < 0
            · clear hc
              go_wp2_with fail
              go_quiet ((go_at_call 23; refine (CH.out _).mono ?_; rintro e w' ⟨rfl, rfl⟩; exact ⟨rfl, _, rfl⟩))
              go_wp2
              go_roundw
              case rel => exact ⟨(j : Int), j + 1, rfl, by go_num, by omega, bestOf_first HT.out hk0 HIN.out, HO2, below_drewN HB2.out _⟩
              case measure => simp [intOf]; omega
            · obtain ⟨k, rfl, hkj⟩ := bestOf_lt HT.out hk0
              have hck := hc k (by rw [HN.out]; omega)
              have hkz : (k : Int) < (n : Int) := by omega
              have hkz0 : (0 : Int) ≤ (k : Int) := by omega
              clear hc
              obtain ⟨x, HX⟩ : ∃ x, Hid (nth gs j = x) := ⟨_, rfl⟩
              obtain ⟨y, HY⟩ : ∃ y, Hid (nth gs k = y) := ⟨_, rfl⟩
              rw [HX.out] at hcj
              rw [HY.out] at hck
              by_cases hxy : y < x
              · go_wp2_with fail
                go_quiet ((go_at_call 23; refine (CH.out _).mono ?_; rintro e w' ⟨rfl, rfl⟩; exact ⟨rfl, _, rfl⟩))
                go_wp2
                go_roundw
                case rel => exact ⟨(j : Int), j + 1, rfl, by go_num, by omega, bestOf_more HT.out (by rw [HX.out, HY.out]; exact hxy) HIN.out, HO2, below_drewN HB2.out _⟩
                case measure => simp [intOf]; omega
              · go_wp2_with fail
                go_quiet ((go_at_call 23; refine (CH.out _).mono ?_; rintro e w' ⟨rfl, rfl⟩; exact ⟨rfl, _, rfl⟩))
                go_wp2
                go_roundw
                case rel => exact ⟨(k : Int), j + 1, rfl, by go_num, by omega, bestOf_stay HT.out (by rw [HX.out, HY.out]; omega), HO2, below_drewN HB2.out _⟩
                case measure => simp [intOf]; omega
        · have hjn : j = n := by omega
          subst hjn
          have hbn := best_next (gs := gs) (m := m) (kk := kk) (by rw [HN.out]; exact hdn) (by rw [HN.out]; exact HT.out)
          obtain ⟨k, rfl, hnx⟩ := hbn
          have HNX : Hid (numZ ((rankL gs).take (m + 1)) = numZ ((rankL gs).take m) ++ [(k : Int)]) := by show _ = _; rw [hnx, numZ_append]; rfl
          have HL1 : Hid ((numZ ((rankL gs).take (m + 1))).length = m + 1) := by show _ = _; rw [HNX.out, List.length_append, HL.out]; rfl
          have hsz2 := HB2.out.size
          clear hnx
          go_wp2_with (at_builtin; refine wpList_app_ints rfl (.tmp 43) (.tmp 45) rfl _ w.heap.size X c (numZ ((rankL gs).take m)) (by rw [HL.out]; rfl) _ _ [(k : Int)] rfl (HO2.out.alloc _) (one_new _ _) (by rw [HL.out]; simp; omega) (by simp; omega) (by simp) ?_; intro v w5 hA)
          obtain ⟨⟨A5, c5, rfl, ho5⟩, hg5, hb5⟩ := hA
          rw [← HNX.out] at ho5 ⊢
          have HO5 := Lib.hid ho5
          have HB5 : Hid (Below w.heap.size w w5) := (HB2.out.alloc hsz2 _).trans hb5
          rw [HL1.out]
          clear ho5 hg5 hb5
          go_wp2
          go_roundg (3 - (m + 1))
          case measure => omega
          case rel => exact ⟨m + 1, A5, c5, by omega, by omega, Nat.le_refl _, rfl, HO5, HB5⟩
    · have HE : Hid (OwnInts wr w.heap.size X c (numZ (bestN gs))) := by
        have h := HO.out
        have e : (rankL gs).take m = bestN gs := by
          unfold bestN
          by_cases h3 : m = 3
          · rw [h3]
          · rw [List.take_of_length_le (by rw [rankL_length, HN.out]; omega), List.take_of_length_le (by rw [rankL_length, HN.out]; omega)]
        rw [e] at h
        exact h
      have HLE : Hid ((numZ (bestN gs)).length = m) := by show _ = _; rw [numZ_length, best_length, HN.out]; omega
      by_cases h3 : m < 3
      · have h3z : (m : Int) < 3 := by omega
        have hnz : ¬ (m : Int) < (n : Int) := by omega
        go_wp2
        go_ret
        exact ⟨X, c, by rw [HLE.out]; rfl, HE.out, HB.out⟩
      · have h3z : ¬ (m : Int) < 3 := by omega
        go_wp2
        go_ret
        exact ⟨X, c, by rw [HLE.out]; rfl, HE.out, HB.out⟩

end Go.Proofs.Ytgmaegcnbebcnaa
