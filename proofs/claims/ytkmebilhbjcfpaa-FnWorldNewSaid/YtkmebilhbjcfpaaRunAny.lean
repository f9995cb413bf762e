/- Contracts of slices.IndexFunc and slices.ContainsFunc over feeds, over lists of requests and over blocks in transit, each with a condition that is given by its contract. Condition: the row lies in memory. -/
import Derived.Test.YtkmebilhbjcfpaaRunP
namespace Go.Proofs.Ytkmebilhbjcfpaa
open Go.RowKit
set_option linter.unusedVariables false

/-- Does one of the first n have it? -/
def anyN (n : Nat) (P : Nat → Bool) : Bool := (List.range n).any P
theorem anyN_yes {n k : Nat} {P : Nat → Bool} (h : k < n) (hk : P k = true) : anyN n P = true := by
  unfold anyN; rw [List.any_eq_true]; exact ⟨k, List.mem_range.2 h, hk⟩
theorem anyN_no {n : Nat} {P : Nat → Bool} (h : ∀ k, k < n → P k = false) : anyN n P = false := by
  unfold anyN; rw [Bool.eq_false_iff]; intro e
  rw [List.any_eq_true] at e
  obtain ⟨k, hk, e⟩ := e
  rw [h k (List.mem_range.1 hk)] at e
  cases e
theorem anyN_all {n : Nat} {P Q : Nat → Bool} (h : ∀ k, k < n → P k = !Q k) : (!anyN n P) = true ↔ ∀ k, k < n → Q k = true := by
  constructor
  · intro e k hk
    cases hq : Q k with
    | true => rfl
    | false =>
      have := anyN_yes hk ((h k hk).trans (by rw [hq]; rfl))
      rw [this] at e
      cases e
  · intro e
    rw [anyN_no fun k hk => by rw [h k hk, e k hk]; rfl]
    rfl

set_option maxHeartbeats 3000000 in
set_option maxRecDepth 100000 in
theorem feedIndex_any (A : Option Addr) (cap : Nat) (hs : List FH) (g1 g2 : Nat) (P : Nat → Bool) (w : World) (hR : RowAt FK w w.heap.size A hs) (hm : hs.length ≤ maxLen)
    (HP : ∀ k, k < hs.length → ∀ U, Below w.heap.size w U → Calls Try.prog 51 #[fhV (fhth hs k), .pointer (some ⟨g1, 0, none⟩), .pointer (some ⟨g2, 0, none⟩)] U fun e w' => e = .returned (.bool (P k)) ∧ Below U.heap.size U w') :
    Calls Try.prog 80 #[.slice A hs.length cap, .func (.func 51) #[] #[.pointer (some ⟨g1, 0, none⟩), .pointer (some ⟨g2, 0, none⟩)]] w fun e w' => ∃ r : Int, e = .returned (.int .i64 r) ∧ decide (0 ≤ r) = anyN hs.length P ∧ Below w.heap.size w w' := by
  have HR := Lib.hid hR
  have HPP := Lib.hid HP
  unfold maxLen at hm
  obtain ⟨n, HN⟩ : ∃ n, Hid (hs.length = n) := ⟨_, rfl⟩
  rw [HN.out] at hm HPP ⊢
  clear hR HP
  obtain ⟨res, HRES⟩ : ∃ x, Hid (anyN n P = x) := ⟨_, rfl⟩
  rw [HRES.out]
  have eg : ∀ args w, (callFunc 51 args).run Try.prog w = .ok (.enter 51 args) w := enters_of Try.func51 (by kernel_rfl) rfl
  go_enter Try.func80, Try.ntmps80
  go_wp2
  go_loopw [5, 8] (fun _ i w' => ∃ k : Nat, k ≤ n ∧ i = .int .i64 k ∧ Hid (Below w.heap.size w w') ∧ Hid (∀ j, j < k → P j = false)) (fun _ i _ => n - (intOf i).toNat)
  case atStart => exact ⟨0, Nat.zero_le _, rfl, Below.refl _ _, fun j hj => absurd hj (Nat.not_lt_zero _)⟩
  case round =>
    obtain ⟨k, hk, rfl, HB, HA⟩ := hrel
    by_cases hlt : k < n
    · have hkz : k < hs.length := by rw [HN.out]; exact hlt
      have hj := HR.out.belowS HB.out
      obtain ⟨b, o, rfl⟩ := hj.some_ (by omega)
      obtain ⟨c0, c1, c2, c3, c4, c5⟩ := feed_cells6 hj k hkz
      have C := Lib.hid (HPP.out k hlt wr HB.out)
      obtain ⟨x, HX⟩ : ∃ x, fhth hs k = x := ⟨_, rfl⟩
      rw [HX] at C c0 c1 c2 c3 c4 c5
      obtain ⟨⟨xp, xl, xd, xs, xbs, xhs⟩, xa1, xc1, xa2, xc2⟩ := x
      unfold fhV at C
      dsimp only at C c0 c1 c2 c3 c4 c5
      obtain ⟨n1, HN1⟩ : ∃ x, xbs.length = x := ⟨_, rfl⟩
      obtain ⟨n2, HN2⟩ : ∃ x, xhs.length = x := ⟨_, rfl⟩
      rw [HN1] at C c4
      rw [HN2] at C c5
      clear HN1 HN2
      have hki : (k : Int) < (n : Int) := by omega
      clear hkz hj HX
      cases hq : P k with
      | false =>
        rw [hq] at C
        have HS : Hid (∀ j, j < k + 1 → P j = false) := fun j hj => by
          by_cases e : j = k
          · subst e; exact hq
          · exact HA.out j (by omega)
        clear hq
        go_wp2_with (go_at_fn 51; refine C.out.mono ?_; rintro e w' ⟨rfl, hb'⟩)
        have HB2 : Hid (Below w.heap.size w w') := HB.out.trans (hb'.mono HB.out.size)
        clear hb'
        go_wp2
        go_roundw
        case rel => exact ⟨k + 1, by omega, by go_num, HB2, HS⟩
        case measure => simp [intOf]; omega
      | true =>
        rw [hq] at C
        have HF : Hid (res = true) := by show _ = _; rw [← HRES.out]; exact anyN_yes hlt hq
        clear hq
        go_wp2_with (go_at_fn 51; refine C.out.mono ?_; rintro e w' ⟨rfl, hb'⟩)
        have HB2 : Hid (Below w.heap.size w w') := HB.out.trans (hb'.mono HB.out.size)
        clear hb'
        go_wp2
        go_ret
        exact ⟨(k : Int), rfl, by rw [HF.out]; simp, HB2.out⟩
    · have hkn : k = n := by omega
      subst hkn
      have HF : Hid (res = false) := by show _ = _; rw [← HRES.out]; exact anyN_no HA.out
      go_wp2
      go_ret
      exact ⟨-1, rfl, by rw [HF.out]; decide, HB.out⟩

set_option maxHeartbeats 1000000 in
theorem feedAny_any (A : Option Addr) (cap : Nat) (hs : List FH) (g1 g2 : Nat) (P : Nat → Bool) (w : World) (hR : RowAt FK w w.heap.size A hs) (hm : hs.length ≤ maxLen)
    (HP : ∀ k, k < hs.length → ∀ U, Below w.heap.size w U → Calls Try.prog 51 #[fhV (fhth hs k), .pointer (some ⟨g1, 0, none⟩), .pointer (some ⟨g2, 0, none⟩)] U fun e w' => e = .returned (.bool (P k)) ∧ Below U.heap.size U w') :
    Calls Try.prog 50 #[.slice A hs.length cap, .func (.func 51) #[] #[.pointer (some ⟨g1, 0, none⟩), .pointer (some ⟨g2, 0, none⟩)]] w fun e w' => e = .returned (.bool (anyN hs.length P)) ∧ Below w.heap.size w w' := by
  have C := Lib.hid (feedIndex_any A cap hs g1 g2 P w hR hm HP)
  clear hR hm HP
  go_enter Try.func50, Try.ntmps50
  go_wp2_with fail
  refine C.out.mono ?_
  rintro e w1 ⟨r, rfl, hr, hb⟩
  have HR := Lib.hid hr
  have HB := Lib.hid hb
  clear hr hb
  go_wp2
  go_ret
  exact ⟨ret_bool HR.out, HB.out⟩

set_option maxHeartbeats 3000000 in
set_option maxRecDepth 100000 in
theorem asksIndex_any (A : Option Addr) (cap : Nat) (hs : List AH) (P : Nat → Bool) (w : World) (hR : RowAt HK2 w w.heap.size A hs) (hm : hs.length ≤ maxLen)
    (HP : ∀ k, k < hs.length → ∀ U, Below w.heap.size w U → Calls Try.prog 56 #[ahV (ahth hs k)] U fun e w' => e = .returned (.bool (P k)) ∧ Below U.heap.size U w') :
    Calls Try.prog 85 #[.slice A hs.length cap, .func (.func 56) #[] #[]] w fun e w' => ∃ r : Int, e = .returned (.int .i64 r) ∧ decide (0 ≤ r) = anyN hs.length P ∧ Below w.heap.size w w' := by
  have HR := Lib.hid hR
  have HPP := Lib.hid HP
  unfold maxLen at hm
  obtain ⟨n, HN⟩ : ∃ n, Hid (hs.length = n) := ⟨_, rfl⟩
  rw [HN.out] at hm HPP ⊢
  clear hR HP
  obtain ⟨res, HRES⟩ : ∃ x, Hid (anyN n P = x) := ⟨_, rfl⟩
  rw [HRES.out]
  have eg : ∀ args w, (callFunc 56 args).run Try.prog w = .ok (.enter 56 args) w := enters_of Try.func56 (by kernel_rfl) rfl
  go_enter Try.func85, Try.ntmps85
  go_wp2
  go_loopw [5, 8] (fun _ i w' => ∃ k : Nat, k ≤ n ∧ i = .int .i64 k ∧ Hid (Below w.heap.size w w') ∧ Hid (∀ j, j < k → P j = false)) (fun _ i _ => n - (intOf i).toNat)
  case atStart => exact ⟨0, Nat.zero_le _, rfl, Below.refl _ _, fun j hj => absurd hj (Nat.not_lt_zero _)⟩
  case round =>
    obtain ⟨k, hk, rfl, HB, HA⟩ := hrel
    by_cases hlt : k < n
    · have hkz : k < hs.length := by rw [HN.out]; exact hlt
      have hj := HR.out.belowS HB.out
      obtain ⟨b, o, rfl⟩ := hj.some_ (by omega)
      have c0 := asks_cell1 hj k hkz
      have C := Lib.hid (HPP.out k hlt wr HB.out)
      obtain ⟨x, HX⟩ : ∃ x, ahth hs k = x := ⟨_, rfl⟩
      rw [HX] at C c0
      obtain ⟨xa, xc, xxs⟩ := x
      unfold ahV at C
      dsimp only at C c0
      obtain ⟨n1, HN1⟩ : ∃ x, xxs.length = x := ⟨_, rfl⟩
      rw [HN1] at C c0
      clear HN1
      have hki : (k : Int) < (n : Int) := by omega
      clear hkz hj HX
      cases hq : P k with
      | false =>
        rw [hq] at C
        have HS : Hid (∀ j, j < k + 1 → P j = false) := fun j hj => by
          by_cases e : j = k
          · subst e; exact hq
          · exact HA.out j (by omega)
        clear hq
        go_wp2_with (go_at_fn 56; refine C.out.mono ?_; rintro e w' ⟨rfl, hb'⟩)
        have HB2 : Hid (Below w.heap.size w w') := HB.out.trans (hb'.mono HB.out.size)
        clear hb'
        go_wp2
        go_roundw
        case rel => exact ⟨k + 1, by omega, by go_num, HB2, HS⟩
        case measure => simp [intOf]; omega
      | true =>
        rw [hq] at C
        have HF : Hid (res = true) := by show _ = _; rw [← HRES.out]; exact anyN_yes hlt hq
        clear hq
        go_wp2_with (go_at_fn 56; refine C.out.mono ?_; rintro e w' ⟨rfl, hb'⟩)
        have HB2 : Hid (Below w.heap.size w w') := HB.out.trans (hb'.mono HB.out.size)
        clear hb'
        go_wp2
        go_ret
        exact ⟨(k : Int), rfl, by rw [HF.out]; simp, HB2.out⟩
    · have hkn : k = n := by omega
      subst hkn
      have HF : Hid (res = false) := by show _ = _; rw [← HRES.out]; exact anyN_no HA.out
      go_wp2
      go_ret
      exact ⟨-1, rfl, by rw [HF.out]; decide, HB.out⟩

set_option maxHeartbeats 1000000 in
theorem asksAny_any (A : Option Addr) (cap : Nat) (hs : List AH) (P : Nat → Bool) (w : World) (hR : RowAt HK2 w w.heap.size A hs) (hm : hs.length ≤ maxLen)
    (HP : ∀ k, k < hs.length → ∀ U, Below w.heap.size w U → Calls Try.prog 56 #[ahV (ahth hs k)] U fun e w' => e = .returned (.bool (P k)) ∧ Below U.heap.size U w') :
    Calls Try.prog 55 #[.slice A hs.length cap, .func (.func 56) #[] #[]] w fun e w' => e = .returned (.bool (anyN hs.length P)) ∧ Below w.heap.size w w' := by
  have C := Lib.hid (asksIndex_any A cap hs P w hR hm HP)
  clear hR hm HP
  go_enter Try.func55, Try.ntmps55
  go_wp2_with fail
  refine C.out.mono ?_
  rintro e w1 ⟨r, rfl, hr, hb⟩
  have HR := Lib.hid hr
  have HB := Lib.hid hb
  clear hr hb
  go_wp2
  go_ret
  exact ⟨ret_bool HR.out, HB.out⟩

set_option maxHeartbeats 3000000 in
set_option maxRecDepth 100000 in
theorem pieceIndex_any (A : Option Addr) (cap : Nat) (hs : List QH) (g1 g2 : Nat) (P : Nat → Bool) (w : World) (hR : RowAt QK w w.heap.size A hs) (hm : hs.length ≤ maxLen)
    (HP : ∀ k, k < hs.length → ∀ U, Below w.heap.size w U → Calls Try.prog 59 #[qhV (qhth hs k), .pointer (some ⟨g1, 0, none⟩), .pointer (some ⟨g2, 0, none⟩)] U fun e w' => e = .returned (.bool (P k)) ∧ Below U.heap.size U w') :
    Calls Try.prog 87 #[.slice A hs.length cap, .func (.func 59) #[] #[.pointer (some ⟨g1, 0, none⟩), .pointer (some ⟨g2, 0, none⟩)]] w fun e w' => ∃ r : Int, e = .returned (.int .i64 r) ∧ decide (0 ≤ r) = anyN hs.length P ∧ Below w.heap.size w w' := by
  have HR := Lib.hid hR
  have HPP := Lib.hid HP
  unfold maxLen at hm
  obtain ⟨n, HN⟩ : ∃ n, Hid (hs.length = n) := ⟨_, rfl⟩
  rw [HN.out] at hm HPP ⊢
  clear hR HP
  obtain ⟨res, HRES⟩ : ∃ x, Hid (anyN n P = x) := ⟨_, rfl⟩
  rw [HRES.out]
  have eg : ∀ args w, (callFunc 59 args).run Try.prog w = .ok (.enter 59 args) w := enters_of Try.func59 (by kernel_rfl) rfl
  go_enter Try.func87, Try.ntmps87
  go_wp2
  go_loopw [5, 8] (fun _ i w' => ∃ k : Nat, k ≤ n ∧ i = .int .i64 k ∧ Hid (Below w.heap.size w w') ∧ Hid (∀ j, j < k → P j = false)) (fun _ i _ => n - (intOf i).toNat)
  case atStart => exact ⟨0, Nat.zero_le _, rfl, Below.refl _ _, fun j hj => absurd hj (Nat.not_lt_zero _)⟩
  case round =>
    obtain ⟨k, hk, rfl, HB, HA⟩ := hrel
    by_cases hlt : k < n
    · have hkz : k < hs.length := by rw [HN.out]; exact hlt
      have hj := HR.out.belowS HB.out
      obtain ⟨b, o, rfl⟩ := hj.some_ (by omega)
      obtain ⟨c0, c1, c2, c3, c4, c5⟩ := piece_cells6 hj k hkz
      have C := Lib.hid (HPP.out k hlt wr HB.out)
      obtain ⟨x, HX⟩ : ∃ x, qhth hs k = x := ⟨_, rfl⟩
      rw [HX] at C c0 c1 c2 c3 c4 c5
      obtain ⟨⟨xf, xt, xl, xi, xtx, xpf⟩, xa, xc⟩ := x
      unfold qhV at C
      dsimp only at C c0 c1 c2 c3 c4 c5
      obtain ⟨n1, HN1⟩ : ∃ x, xpf.length = x := ⟨_, rfl⟩
      rw [HN1] at C c5
      clear HN1
      have hki : (k : Int) < (n : Int) := by omega
      clear hkz hj HX
      cases hq : P k with
      | false =>
        rw [hq] at C
        have HS : Hid (∀ j, j < k + 1 → P j = false) := fun j hj => by
          by_cases e : j = k
          · subst e; exact hq
          · exact HA.out j (by omega)
        clear hq
        go_wp2_with (go_at_fn 59; refine C.out.mono ?_; rintro e w' ⟨rfl, hb'⟩)
        have HB2 : Hid (Below w.heap.size w w') := HB.out.trans (hb'.mono HB.out.size)
        clear hb'
        go_wp2
        go_roundw
        case rel => exact ⟨k + 1, by omega, by go_num, HB2, HS⟩
        case measure => simp [intOf]; omega
      | true =>
        rw [hq] at C
        have HF : Hid (res = true) := by show _ = _; rw [← HRES.out]; exact anyN_yes hlt hq
        clear hq
        go_wp2_with (go_at_fn 59; refine C.out.mono ?_; rintro e w' ⟨rfl, hb'⟩)
        have HB2 : Hid (Below w.heap.size w w') := HB.out.trans (hb'.mono HB.out.size)
        clear hb'
        go_wp2
        go_ret
        exact ⟨(k : Int), rfl, by rw [HF.out]; simp, HB2.out⟩
    · have hkn : k = n := by omega
      subst hkn
      have HF : Hid (res = false) := by show _ = _; rw [← HRES.out]; exact anyN_no HA.out
      go_wp2
      go_ret
      exact ⟨-1, rfl, by rw [HF.out]; decide, HB.out⟩

set_option maxHeartbeats 1000000 in
theorem pieceAny_any (A : Option Addr) (cap : Nat) (hs : List QH) (g1 g2 : Nat) (P : Nat → Bool) (w : World) (hR : RowAt QK w w.heap.size A hs) (hm : hs.length ≤ maxLen)
    (HP : ∀ k, k < hs.length → ∀ U, Below w.heap.size w U → Calls Try.prog 59 #[qhV (qhth hs k), .pointer (some ⟨g1, 0, none⟩), .pointer (some ⟨g2, 0, none⟩)] U fun e w' => e = .returned (.bool (P k)) ∧ Below U.heap.size U w') :
    Calls Try.prog 58 #[.slice A hs.length cap, .func (.func 59) #[] #[.pointer (some ⟨g1, 0, none⟩), .pointer (some ⟨g2, 0, none⟩)]] w fun e w' => e = .returned (.bool (anyN hs.length P)) ∧ Below w.heap.size w w' := by
  have C := Lib.hid (pieceIndex_any A cap hs g1 g2 P w hR hm HP)
  clear hR hm HP
  go_enter Try.func58, Try.ntmps58
  go_wp2_with fail
  refine C.out.mono ?_
  rintro e w1 ⟨r, rfl, hr, hb⟩
  have HR := Lib.hid hr
  have HB := Lib.hid hb
  clear hr hb
  go_wp2
  go_ret
  exact ⟨ret_bool HR.out, HB.out⟩
end Go.Proofs.Ytkmebilhbjcfpaa
