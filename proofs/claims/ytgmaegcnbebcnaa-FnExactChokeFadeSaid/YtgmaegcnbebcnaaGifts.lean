/- Contracts of the checks of the numbers that peers gave and of a turn. Condition: the numbers lie in memory. -/
import Derived.Test.YtgmaegcnbebcnaaServeMath
import Derived.Test.YtgmaegcnbebcnaaBaseA
import Derived.Shelf.Abstract
import Derived.Lib.Hide
namespace Go.Proofs.Ytgmaegcnbebcnaa
open Go.RowKit
set_option linter.unusedVariables false

def smallI (x : Int) : Bool := decide (0 ≤ x) && decide (x ≤ 99)
def smallG (gs : List Int) : Bool := gs.all smallI
theorem okG_small (gs : List Int) : okG gs = (decide (gs.length ≤ 6) && smallG gs) := rfl
theorem smallG_iff (gs : List Int) : smallG gs = true ↔ ∀ j, j < gs.length → smallI (nth gs j) = true := by
  unfold smallG
  rw [List.all_eq_true]
  constructor
  · intro h j hj
    refine h _ ?_
    unfold nth
    rw [List.getD_eq_getElem?_getD, List.getElem?_eq_getElem hj]
    exact List.getElem_mem hj
  · intro h x hx
    obtain ⟨j, hj, rfl⟩ := List.mem_iff_getElem.1 hx
    have := h j hj
    unfold nth at this
    rwa [List.getD_eq_getElem?_getD, List.getElem?_eq_getElem hj] at this
theorem smallG_no {gs : List Int} {j : Nat} (hj : j < gs.length) (h : ¬ smallI (nth gs j) = true) : smallG gs = false := by
  cases e : smallG gs with
  | false => rfl
  | true => exact absurd ((smallG_iff gs).1 e j hj) h

set_option maxHeartbeats 1000000 in
theorem gift1_any (x : Int) (w : World) :
    Calls Try.prog 31 #[.int .i64 x] w fun e w' => e = .returned (.bool (!smallI x)) ∧ w' = w := by
  by_cases h1 : x < 0
  · have HE : Hid (smallI x = false) := by show _ = _; unfold smallI; rw [decide_eq_false (by omega)]; rfl
    go_enter Try.func31, Try.ntmps31
    go_wp2
    go_ret
    exact ⟨by rw [HE.out]; rfl, rfl⟩
  · by_cases h2 : 99 < x
    · have HE : Hid (smallI x = false) := by show _ = _; unfold smallI; rw [decide_eq_false (p := x ≤ 99) (by omega), Bool.and_false]
      go_enter Try.func31, Try.ntmps31
      go_wp2
      go_ret
      exact ⟨by rw [HE.out]; simp, rfl⟩
    · have HE : Hid (smallI x = true) := by show _ = _; unfold smallI; rw [decide_eq_true (by omega), decide_eq_true (by omega)]; rfl
      go_enter Try.func31, Try.ntmps31
      go_wp2
      go_ret
      exact ⟨by rw [HE.out]; simp, rfl⟩

set_option maxHeartbeats 2000000 in
theorem giftsIndex_any (A : Option Addr) (cap : Nat) (gs : List Int) (w : World) (B : Nat) (hI : IntsAt w B A gs) (hm : gs.length ≤ 1048576) :
    Calls Try.prog 37 #[.slice A gs.length cap, .func (.func 31) #[] #[]] w fun e w' => ∃ r : Int, e = .returned (.int .i64 r) ∧ (decide (0 ≤ r) = !smallG gs) ∧ w' = w := by
  have HI := Lib.hid hI
  obtain ⟨n, HN⟩ : ∃ n, Hid (gs.length = n) := ⟨_, rfl⟩
  rw [HN.out] at hm ⊢
  clear hI
  have eg : ∀ args w, (callFunc 31 args).run Try.prog w = .ok (.enter 31 args) w := enters_of Try.func31 (by kernel_rfl) rfl
  go_enter Try.func37, Try.ntmps37
  go_wp2
  go_loopw [5, 8] (fun _ i w' => ∃ k : Nat, k ≤ n ∧ i = .int .i64 k ∧ Hid (w' = w) ∧ Hid (∀ j, j < k → smallI (nth gs j) = true)) (fun _ i _ => n - (intOf i).toNat)
  case atStart => exact ⟨0, Nat.zero_le _, rfl, (by first | exact Lib.hid trivial | exact Lib.hid rfl), fun j hj => absurd hj (Nat.not_lt_zero _)⟩
  case round =>
    obtain ⟨k, hk, rfl, HW, HA⟩ := hrel
    have hw : wr = w := HW.out
    subst hw
    clear HW
    by_cases hlt : k < n
    · have hqz : k < gs.length := by rw [HN.out]; exact hlt
      obtain ⟨b, o, rfl, _, hc⟩ := HI.out (by omega)
      have hck := hc k hqz
      obtain ⟨x, HX⟩ : ∃ x, Hid (nth gs k = x) := ⟨_, rfl⟩
      rw [HX.out] at hck
      have C := Lib.hid (gift1_any x wr)
      have hki : (k : Int) < (n : Int) := by omega
      have hk0 : (0 : Int) ≤ (k : Int) := by omega
      clear hqz hc
      cases hq : smallI x with
      | true =>
        rw [hq] at C
        have HQ := Lib.hid hq
        clear hq
        go_wp2_with (go_at_fn 31; refine C.out.mono ?_; rintro e w' ⟨rfl, rfl⟩)
        go_wp2
        go_roundw
        case rel =>
          refine ⟨k + 1, by omega, by go_num, (by first | exact Lib.hid trivial | exact Lib.hid rfl), fun j hj => ?_⟩
          by_cases e : j = k
          · subst e; rw [HX.out]; exact HQ.out
          · exact HA.out j (by omega)
        case measure => simp [intOf]; omega
      | false =>
        rw [hq] at C
        have HQ := Lib.hid hq
        clear hq
        have HNO : Hid (smallG gs = false) := smallG_no (j := k) (by rw [HN.out]; exact hlt) (by rw [HX.out, HQ.out]; decide)
        go_wp2_with (go_at_fn 31; refine C.out.mono ?_; rintro e w' ⟨rfl, rfl⟩)
        go_wp2
        go_ret
        exact ⟨(k : Int), rfl, by rw [HNO.out]; simp, rfl⟩
    · have hkn : k = n := by omega
      subst hkn
      have HYES : Hid (smallG gs = true) := (smallG_iff _).2 fun j hj => HA.out j (by rw [HN.out] at hj; exact hj)
      go_wp2
      go_ret
      exact ⟨-1, rfl, by rw [HYES.out]; decide, rfl⟩
theorem ret_flagG {r : Int} {b : Bool} (h : decide (0 ≤ r) = !b) : Ending.returned (.bool (decide (0 ≤ r))) = Ending.returned (.bool (!b)) := by rw [h]
set_option maxHeartbeats 1000000 in
theorem giftsSome_any (A : Option Addr) (cap : Nat) (gs : List Int) (w : World) (B : Nat) (hI : IntsAt w B A gs) (hm : gs.length ≤ 1048576) :
    Calls Try.prog 30 #[.slice A gs.length cap, .func (.func 31) #[] #[]] w fun e w' => e = .returned (.bool (!smallG gs)) ∧ w' = w := by
  have C := Lib.hid (giftsIndex_any A cap gs w B hI hm)
  clear hI
  go_enter Try.func30, Try.ntmps30
  go_wp2_with fail
  refine C.out.mono ?_
  rintro e w1 ⟨r, rfl, hr, rfl⟩
  have HR := Lib.hid hr
  clear hr
  go_wp2
  go_ret
  exact ⟨ret_flagG HR.out, rfl⟩
set_option maxHeartbeats 1000000 in
theorem giftsValid_any (A : Option Addr) (cap : Nat) (gs : List Int) (w : World) (B : Nat) (hI : IntsAt w B A gs) (hm : gs.length ≤ 1048576) :
    Calls Try.prog 24 #[.slice A gs.length cap] w fun e w' => e = .returned (.bool (okG gs)) ∧ w' = w := by
  have C := Lib.hid (giftsSome_any A cap gs w B hI hm)
  have HO : Hid (okG gs = (decide (gs.length ≤ 6) && smallG gs)) := okG_small gs
  obtain ⟨n, HN⟩ : ∃ n, Hid (gs.length = n) := ⟨_, rfl⟩
  rw [HN.out] at C HO ⊢
  clear hI
  by_cases h6 : n ≤ 6
  · have h7 : ¬ (6 : Int) < (n : Int) := by omega
    go_enter Try.func24, Try.ntmps24
    go_wp2_with fail
    refine C.out.mono ?_
    rintro e w1 ⟨rfl, rfl⟩
    go_wp2
    go_ret
    exact ⟨by rw [HO.out, decide_eq_true h6]; simp, rfl⟩
  · have h7 : (6 : Int) < (n : Int) := by omega
    go_enter Try.func24, Try.ntmps24
    go_wp2
    go_ret
    exact ⟨by rw [HO.out, decide_eq_false h6]; rfl, rfl⟩
set_option maxHeartbeats 1000000 in
theorem turnValid_any (t : Int) (w : World) :
    Calls Try.prog 25 #[.int .i64 t] w fun e w' => e = .returned (.bool (okT t)) ∧ w' = w := by
  by_cases h1 : 0 ≤ t
  · have HE : Hid (okT t = decide (t ≤ 999)) := by show _ = _; unfold okT; rw [decide_eq_true h1]; rfl
    go_enter Try.func25, Try.ntmps25
    go_wp2
    go_ret
    exact ⟨by rw [HE.out]; rfl, rfl⟩
  · have HE : Hid (okT t = false) := by show _ = _; unfold okT; rw [decide_eq_false h1]; rfl
    go_enter Try.func25, Try.ntmps25
    go_wp2
    go_ret
    exact ⟨by rw [HE.out]; rfl, rfl⟩

end Go.Proofs.Ytgmaegcnbebcnaa
