/- Contracts of BitsWants and of its model: the places that are set in one list and not in another, or none if one of both has more than 16 bits; nothing that was there is changed. Condition: the bits lie in memory. -/
import Derived.Test.YtmgdngmcgokeeaaBitsCount
namespace Go.Proofs.Ytmgdngmcgokeeaa
open Go.RowKit
set_option linter.unusedVariables false

/-- Are there at most 16? -/
def fits (len : Nat) : Bool := decide (len ≤ 16)
theorem fits_yes {len : Nat} (h : len ≤ 16) : fits len = true := by simp [fits, h]
theorem fits_no {len : Nat} (h : 16 < len) : fits len = false := by simp [fits]; omega

theorem bitsValid_any (A : Option Addr) (len cap : Nat) (w : World) :
    Calls Try.prog 26 #[.slice A len cap] w fun e w' => e = .returned (.bool (fits len)) ∧ w = w' := by
  by_cases h : len ≤ 16
  · rw [fits_yes h]; exact bitsValid_yes A len cap w h
  · rw [fits_no (by omega)]; exact bitsValid_no A len cap w (by omega)

theorem bth_beyond {bs : List Bool} {k : Nat} (h : bs.length ≤ k) : bth bs k = false := by
  rw [bth, List.getD_eq_getElem?_getD, List.getElem?_eq_none h]; rfl

set_option maxHeartbeats 400000 in
theorem bitSet_any (A : Option Addr) (cap : Nat) (bs : List Bool) (k : Nat) (w : World) (hI : BoolsAt w w.heap.size A bs) (hm : bs.length ≤ maxLen) :
    Calls Try.prog 29 #[.slice A bs.length cap, .int .i64 (k : Int)] w fun e w' => e = .returned (.bool (bth bs k)) ∧ w = w' := by
  unfold maxLen at hm
  obtain ⟨m, HM⟩ : ∃ m, Hid (bs.length = m) := ⟨_, rfl⟩
  rw [HM.out] at hm ⊢
  by_cases h : k < m
  · have hkz : k < bs.length := by rw [HM.out]; exact h
    obtain ⟨b, o, rfl, hb, hc⟩ := hI (by omega)
    have hck := hc k hkz
    have hki : (k : Int) < (m : Int) := by omega
    clear hI hc hkz
    go_enter Try.func29, Try.ntmps29
    go_wp2
    go_ret
    exact ⟨rfl, rfl⟩
  · have hd : decide (k < m) = false := by simp; omega
    have HE : Hid (bth bs k = false) := bth_beyond (by rw [HM.out]; omega)
    clear hI
    go_enter Try.func29, Try.ntmps29
    go_wp2
    go_ret
    exact ⟨ret_bool HE.out.symm, rfl⟩

set_option maxHeartbeats 400000 in
theorem sat_any (A : Option Addr) (cap : Nat) (bs : List Bool) (k : Nat) (w : World) (hI : BoolsAt w w.heap.size A bs) (hm : bs.length ≤ maxLen) :
    Calls Try.prog 30 #[.slice A bs.length cap, .int .i64 (k : Int)] w fun e w' => e = .returned (.bool (bth bs k)) ∧ w = w' := by
  unfold maxLen at hm
  obtain ⟨m, HM⟩ : ∃ m, Hid (bs.length = m) := ⟨_, rfl⟩
  rw [HM.out] at hm ⊢
  by_cases h : k < m
  · have hkz : k < bs.length := by rw [HM.out]; exact h
    obtain ⟨b, o, rfl, hb, hc⟩ := hI (by omega)
    have hck := hc k hkz
    have hki : (k : Int) < (m : Int) := by omega
    clear hI hc hkz
    go_enter Try.func30, Try.ntmps30
    go_wp2
    go_ret
    exact ⟨rfl, rfl⟩
  · have hd : decide (k < m) = false := by simp; omega
    have HE : Hid (bth bs k = false) := bth_beyond (by rw [HM.out]; omega)
    clear hI
    go_enter Try.func30, Try.ntmps30
    go_wp2
    go_ret
    exact ⟨ret_bool HE.out.symm, rfl⟩

/-- The places among the first k that are set in a and not in b. -/
def wantsK (a b : List Bool) : Nat → List Int
  | 0 => []
  | k + 1 => wantsK a b k ++ (if bth a k && !bth b k then [(k : Int)] else [])
theorem wantsK_yes {a b : List Bool} {k : Nat} (ha : bth a k = true) (hb : bth b k = false) : wantsK a b (k + 1) = wantsK a b k ++ [(k : Int)] := by simp [wantsK, ha, hb]
theorem wantsK_not {a b : List Bool} {k : Nat} (ha : bth a k = false) : wantsK a b (k + 1) = wantsK a b k := by simp [wantsK, ha]
theorem wantsK_has {a b : List Bool} {k : Nat} (hb : bth b k = true) : wantsK a b (k + 1) = wantsK a b k := by simp [wantsK, hb]
theorem wantsK_length (a b : List Bool) : ∀ k, (wantsK a b k).length ≤ k
  | 0 => Nat.le_refl _
  | k + 1 => by
    have := wantsK_length a b k
    rw [wantsK, List.length_append]
    split <;> simp <;> omega
/-- What BitsWants answers. -/
def wantsOr (a b : List Bool) : List Int := if a.length ≤ 16 ∧ b.length ≤ 16 then wantsK a b a.length else []
theorem wantsOr_yes {a b : List Bool} (ha : a.length ≤ 16) (hb : b.length ≤ 16) : wantsOr a b = wantsK a b a.length := if_pos ⟨ha, hb⟩
theorem wantsOr_no {a b : List Bool} (h : ¬ (a.length ≤ 16 ∧ b.length ≤ 16)) : wantsOr a b = [] := if_neg h
theorem wantsOr_short (a b : List Bool) : (wantsOr a b).length ≤ 16 := by
  unfold wantsOr
  split
  · have := wantsK_length a b a.length; omega
  · simp

/-- Where the list of places stands. -/
structure Wanting (w : World) (zs : List Int) (X : Option Addr) (c : Nat) (w' : World) : Prop where
  own : OwnInts w' w.heap.size X c zs
  below : Below w.heap.size w w'
theorem Wanting.app {w w1 w2 : World} {zs ys : List Int} {X : Option Addr} {c : Nat} {v : Value} (h : Wanting w zs X c w1) (o : Obj) (hA : Appended (w1.alloc o) w.heap.size X zs.length c ys v w2) : ∃ X' c', v = .slice X' ys.length c' ∧ Wanting w ys X' c' w2 := by
  obtain ⟨⟨X', c', hv, ho⟩, hg, hb⟩ := hA
  exact ⟨X', c', hv, ho, (h.below.alloc h.below.size o).trans hb⟩

set_option maxHeartbeats 4000000 in
set_option maxRecDepth 100000 in
theorem bitsWants_yes (A : Option Addr) (cap : Nat) (a : List Bool) (A1 : Option Addr) (cap1 : Nat) (b : List Bool) (w : World) (hI : BoolsAt w w.heap.size A a) (hJ : BoolsAt w w.heap.size A1 b) (ha : a.length ≤ 16) (hb : b.length ≤ 16) :
    Calls Try.prog 14 #[.slice A a.length cap, .slice A1 b.length cap1] w (RetInts w (wantsK a b a.length)) := by
  have HI := Lib.hid hI
  have HJ := Lib.hid hJ
  obtain ⟨m, HM⟩ : ∃ m, Hid (a.length = m) := ⟨_, rfl⟩
  have hfa := fits_yes ha
  have hfb := fits_yes hb
  have HB16 : Hid (b.length ≤ maxLen) := by show _ ≤ _; unfold maxLen; omega
  rw [HM.out] at ha hfa ⊢
  clear hI hJ
  go_enter Try.func14, Try.ntmps14
  go_wp2_with (go_at_call 26; refine (bitsValid_any _ _ _ _).mono ?_; rintro e w' ⟨rfl, rfl⟩)
  go_loopw [5, 20] (fun p i w' => ∃ (k L c : Nat) (X : Option Addr), k ≤ m ∧ L ≤ k ∧ i = .int .i64 k ∧ p = .slice X L c ∧ Hid ((wantsK a b k).length = L) ∧ Hid (Wanting w (wantsK a b k) X c w')) (fun _ i _ => m - (intOf i).toNat)
  case atStart => exact ⟨0, 0, 0, _, by omega, by omega, rfl, rfl, rfl, OwnInts.new w, (Below.refl _ _).alloc (Nat.le_refl _) _⟩
  case round =>
    obtain ⟨k, L, c, X, hk, hLk, rfl, rfl, HL, HW⟩ := hrel
    have hsz := HW.out.below.size
    by_cases hlt : k < m
    · have hkz : k < a.length := by rw [HM.out]; exact hlt
      obtain ⟨blk, o, rfl, hbl, hc⟩ := (HI.out.belowS HW.out.below) (by omega)
      have hck := hc k hkz
      have HJ1 := Lib.hid (HJ.out.belowS HW.out.below)
      have hki : (k : Int) < (m : Int) := by omega
      cases hv : bth a k with
      | false =>
        rw [hv] at hck
        have he := wantsK_not (b := b) hv
        have HL' : Hid ((wantsK a b (k + 1)).length = L) := by show _ = _; rw [he]; exact HL.out
        have HW' : Hid (Wanting w (wantsK a b (k + 1)) X c wr) := by show Wanting _ _ _ _ _; rw [he]; exact HW.out
        clear hc hkz hv he
        go_wp2
        go_roundw
        case rel => exact ⟨k + 1, L, c, X, by omega, by omega, by go_num, rfl, HL', HW'⟩
        case measure => simp [intOf]; omega
      | true =>
        rw [hv] at hck
        cases hu : bth b k with
        | true =>
          have he := wantsK_has (a := a) hu
          have HL' : Hid ((wantsK a b (k + 1)).length = L) := by show _ = _; rw [he]; exact HL.out
          have HW' : Hid (Wanting w (wantsK a b (k + 1)) X c wr) := by show Wanting _ _ _ _ _; rw [he]; exact HW.out
          clear hc hkz hv he
          go_wp2_with (go_at_call 29; refine (bitSet_any _ _ _ _ _ HJ1.out HB16.out).mono ?_; rintro e w' ⟨rfl, rfl⟩)
          go_roundw
          case rel => exact ⟨k + 1, L, c, X, by omega, by omega, by go_num, rfl, HL', HW'⟩
          case measure => simp [intOf]; omega
        | false =>
          have HE := Lib.hid (wantsK_yes hv hu)
          clear hc hkz hv
          go_wp2_with (first
            | (go_at_call 29; refine (bitSet_any _ _ _ _ _ HJ1.out HB16.out).mono ?_; rintro e w' ⟨rfl, rfl⟩)
            | (at_builtin; refine wpList_app_ints rfl (.tmp 32) (.tmp 34) rfl _ w.heap.size X c (wantsK a b k) (by rw [HL.out]; rfl) _ _ [(k : Int)] rfl (HW.out.own.alloc _) (one_new _ _) (by rw [HL.out]; simp; omega) (by simp; omega) (by simp) ?_; intro v w4 hA))
          obtain ⟨X', c', rfl, hW4⟩ := HW.out.app _ hA
          rw [← HE.out] at hW4
          have HW4 := Lib.hid hW4
          have hlen : (wantsK a b k ++ [(k : Int)]).length = L + 1 := by rw [List.length_append, HL.out]; rfl
          have HL4 : Hid ((wantsK a b (k + 1)).length = L + 1) := by show _ = _; rw [HE.out]; exact hlen
          rw [hlen]
          clear hA hW4 hlen
          go_wp2
          go_roundw
          case rel => exact ⟨k + 1, L + 1, c', X', by omega, by omega, by go_num, by simp, HL4, HW4⟩
          case measure => simp [intOf]; omega
    · have hkm : k = m := by omega
      subst hkm
      go_wp2
      go_ret
      exact ⟨X, c, by rw [HL.out]; rfl, HW.out.own, HW.out.below⟩

set_option maxHeartbeats 1000000 in
theorem bitsWants_no (A : Option Addr) (la cap : Nat) (A1 : Option Addr) (lb cap1 : Nat) (w : World) (h : ¬ (la ≤ 16 ∧ lb ≤ 16)) :
    Calls Try.prog 14 #[.slice A la cap, .slice A1 lb cap1] w (RetInts w []) := by
  by_cases ha : la ≤ 16
  · have hb : 16 < lb := by omega
    have hfa := fits_yes ha
    have hfb := fits_no hb
    clear h
    go_enter Try.func14, Try.ntmps14
    go_wp2_with (go_at_call 26; refine (bitsValid_any _ _ _ _).mono ?_; rintro e w' ⟨rfl, rfl⟩)
    go_ret
    exact ⟨_, 0, rfl, OwnInts.new w, (Below.refl _ _).alloc (Nat.le_refl _) _⟩
  · have hfa := fits_no (len := la) (by omega)
    clear h
    go_enter Try.func14, Try.ntmps14
    go_wp2_with (go_at_call 26; refine (bitsValid_any _ _ _ _).mono ?_; rintro e w' ⟨rfl, rfl⟩)
    go_ret
    exact ⟨_, 0, rfl, OwnInts.new w, (Below.refl _ _).alloc (Nat.le_refl _) _⟩

theorem bitsWants_any (A : Option Addr) (cap : Nat) (a : List Bool) (A1 : Option Addr) (cap1 : Nat) (b : List Bool) (w : World) (hI : BoolsAt w w.heap.size A a) (hJ : BoolsAt w w.heap.size A1 b) :
    Calls Try.prog 14 #[.slice A a.length cap, .slice A1 b.length cap1] w (RetInts w (wantsOr a b)) := by
  by_cases h : a.length ≤ 16 ∧ b.length ≤ 16
  · rw [wantsOr_yes h.1 h.2]; exact bitsWants_yes A cap a A1 cap1 b w hI hJ h.1 h.2
  · rw [wantsOr_no h]; exact bitsWants_no A a.length cap A1 b.length cap1 w h

set_option maxHeartbeats 4000000 in
set_option maxRecDepth 100000 in
theorem sbitsWants_yes (A : Option Addr) (cap : Nat) (a : List Bool) (A1 : Option Addr) (cap1 : Nat) (b : List Bool) (w : World) (hI : BoolsAt w w.heap.size A a) (hJ : BoolsAt w w.heap.size A1 b) (ha : a.length ≤ 16) (hb : b.length ≤ 16) :
    Calls Try.prog 16 #[.slice A a.length cap, .slice A1 b.length cap1] w (RetInts w (wantsK a b a.length)) := by
  have HI := Lib.hid hI
  have HJ := Lib.hid hJ
  obtain ⟨m, HM⟩ : ∃ m, Hid (a.length = m) := ⟨_, rfl⟩
  have HB16 : Hid (b.length ≤ maxLen) := by show _ ≤ _; unfold maxLen; omega
  have hdb : decide (b.length ≤ 16) = true := by simp [hb]
  rw [HM.out] at ha ⊢
  have hda : decide (m ≤ 16) = true := by simp [ha]
  clear hI hJ
  go_enter Try.func16, Try.ntmps16
  go_wp2
  go_loopw [5, 6] (fun p i w' => ∃ (k L c : Nat) (X : Option Addr), k ≤ m ∧ L ≤ k ∧ i = .int .i64 k ∧ p = .slice X L c ∧ Hid ((wantsK a b k).length = L) ∧ Hid (Wanting w (wantsK a b k) X c w')) (fun _ i _ => m - (intOf i).toNat)
  case atStart => exact ⟨0, 0, 0, _, by omega, by omega, rfl, rfl, rfl, OwnInts.new w, (Below.refl _ _).alloc (Nat.le_refl _) _⟩
  case round =>
    obtain ⟨k, L, c, X, hk, hLk, rfl, rfl, HL, HW⟩ := hrel
    have hsz := HW.out.below.size
    by_cases hlt : k < m
    · have hkz : k < a.length := by rw [HM.out]; exact hlt
      obtain ⟨blk, o, rfl, hbl, hc⟩ := (HI.out.belowS HW.out.below) (by omega)
      have hck := hc k hkz
      have HJ1 := Lib.hid (HJ.out.belowS HW.out.below)
      have hki : (k : Int) < (m : Int) := by omega
      have hkd : decide (k < m) = true := by simp [hlt]
      cases hv : bth a k with
      | false =>
        rw [hv] at hck
        have he := wantsK_not (b := b) hv
        have HL' : Hid ((wantsK a b (k + 1)).length = L) := by show _ = _; rw [he]; exact HL.out
        have HW' : Hid (Wanting w (wantsK a b (k + 1)) X c wr) := by show Wanting _ _ _ _ _; rw [he]; exact HW.out
        clear hc hkz hv he
        go_wp2
        go_roundw
        case rel => exact ⟨k + 1, L, c, X, by omega, by omega, by go_num, rfl, HL', HW'⟩
        case measure => simp [intOf]; omega
      | true =>
        rw [hv] at hck
        cases hu : bth b k with
        | true =>
          have he := wantsK_has (a := a) hu
          have HL' : Hid ((wantsK a b (k + 1)).length = L) := by show _ = _; rw [he]; exact HL.out
          have HW' : Hid (Wanting w (wantsK a b (k + 1)) X c wr) := by show Wanting _ _ _ _ _; rw [he]; exact HW.out
          clear hc hkz hv he
          go_wp2_with (go_at_call 30; refine (sat_any _ _ _ _ _ HJ1.out HB16.out).mono ?_; rintro e w' ⟨rfl, rfl⟩)
          go_roundw
          case rel => exact ⟨k + 1, L, c, X, by omega, by omega, by go_num, rfl, HL', HW'⟩
          case measure => simp [intOf]; omega
        | false =>
          have HE := Lib.hid (wantsK_yes hv hu)
          clear hc hkz hv
          go_wp2_with (first
            | (go_at_call 30; refine (sat_any _ _ _ _ _ HJ1.out HB16.out).mono ?_; rintro e w' ⟨rfl, rfl⟩)
            | (at_builtin; refine wpList_app_ints rfl (.tmp 34) (.tmp 36) rfl _ w.heap.size X c (wantsK a b k) (by rw [HL.out]; rfl) _ _ [(k : Int)] rfl (HW.out.own.alloc _) (one_new _ _) (by rw [HL.out]; simp; omega) (by simp; omega) (by simp) ?_; intro v w4 hA))
          obtain ⟨X', c', rfl, hW4⟩ := HW.out.app _ hA
          rw [← HE.out] at hW4
          have HW4 := Lib.hid hW4
          have hlen : (wantsK a b k ++ [(k : Int)]).length = L + 1 := by rw [List.length_append, HL.out]; rfl
          have HL4 : Hid ((wantsK a b (k + 1)).length = L + 1) := by show _ = _; rw [HE.out]; exact hlen
          rw [hlen]
          clear hA hW4 hlen
          go_wp2
          go_roundw
          case rel => exact ⟨k + 1, L + 1, c', X', by omega, by omega, by go_num, by simp, HL4, HW4⟩
          case measure => simp [intOf]; omega
    · have hkm : k = m := by omega
      subst hkm
      have hkd : decide (k < k) = false := by simp
      go_wp2
      go_ret
      exact ⟨X, c, by rw [HL.out]; rfl, HW.out.own, HW.out.below⟩

set_option maxHeartbeats 1000000 in
theorem sbitsWants_no (A : Option Addr) (la cap : Nat) (A1 : Option Addr) (lb cap1 : Nat) (w : World) (hma : la ≤ maxLen) (hmb : lb ≤ maxLen) (h : ¬ (la ≤ 16 ∧ lb ≤ 16)) :
    Calls Try.prog 16 #[.slice A la cap, .slice A1 lb cap1] w (RetInts w []) := by
  unfold maxLen at hma hmb
  have key : (0 < la ∧ la ≤ 16 ∧ 16 < lb) ∨ (0 < la ∧ 16 < la) ∨ la = 0 := by omega
  clear h
  have fin : RetInts w [] (.returned (.slice (some ⟨w.heap.size, 0, none⟩) 0 0)) (w.alloc (.cells #[] 3)) := ⟨_, 0, rfl, OwnInts.new w, (Below.refl _ _).alloc (Nat.le_refl _) _⟩
  have FIN := Lib.hid fin
  clear fin
  rcases key with ⟨h0, ha, hb⟩ | ⟨h0, ha⟩ | h0
  · have hd0 : decide (0 < la) = true := by simp [h0]
    have hda : decide (la ≤ 16) = true := by simp [ha]
    have hdb : decide (lb ≤ 16) = false := by simp; omega
    go_enter Try.func16, Try.ntmps16
    go_wp2
    go_loop [5, 6] (fun p i => p = .slice (some ⟨w.heap.size, 0, none⟩) 0 0 ∧ i = .int .i64 0) (fun _ _ => 0)
    case atStart => exact ⟨rfl, rfl⟩
    case round =>
      obtain ⟨rfl, rfl⟩ := hrel
      go_wp2
      go_ret
      exact FIN.out
  · have hd0 : decide (0 < la) = true := by simp [h0]
    have hda : decide (la ≤ 16) = false := by simp; omega
    go_enter Try.func16, Try.ntmps16
    go_wp2
    go_loop [5, 6] (fun p i => p = .slice (some ⟨w.heap.size, 0, none⟩) 0 0 ∧ i = .int .i64 0) (fun _ _ => 0)
    case atStart => exact ⟨rfl, rfl⟩
    case round =>
      obtain ⟨rfl, rfl⟩ := hrel
      go_wp2
      go_ret
      exact FIN.out
  · subst h0
    go_enter Try.func16, Try.ntmps16
    go_wp2
    go_loop [5, 6] (fun p i => p = .slice (some ⟨w.heap.size, 0, none⟩) 0 0 ∧ i = .int .i64 0) (fun _ _ => 0)
    case atStart => exact ⟨rfl, rfl⟩
    case round =>
      obtain ⟨rfl, rfl⟩ := hrel
      go_wp2
      go_ret
      exact FIN.out

theorem sbitsWants_any (A : Option Addr) (cap : Nat) (a : List Bool) (A1 : Option Addr) (cap1 : Nat) (b : List Bool) (w : World) (hI : BoolsAt w w.heap.size A a) (hJ : BoolsAt w w.heap.size A1 b) (hma : a.length ≤ maxLen) (hmb : b.length ≤ maxLen) :
    Calls Try.prog 16 #[.slice A a.length cap, .slice A1 b.length cap1] w (RetInts w (wantsOr a b)) := by
  by_cases h : a.length ≤ 16 ∧ b.length ≤ 16
  · rw [wantsOr_yes h.1 h.2]; exact sbitsWants_yes A cap a A1 cap1 b w hI hJ h.1 h.2
  · rw [wantsOr_no h]; exact sbitsWants_no A a.length cap A1 b.length cap1 w hma hmb h

end Go.Proofs.Ytmgdngmcgokeeaa
