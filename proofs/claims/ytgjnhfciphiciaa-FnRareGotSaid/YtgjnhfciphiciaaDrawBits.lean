/- Contracts of l91Bits and of the draws of bits: at most 18 bits in memory of the call's own; the reader moves on. Condition: the code's bytes lie in memory. -/
import Derived.Test.YtgjnhfciphiciaaBaseD
import Derived.Test.YtgjnhfciphiciaaBaseA
namespace Go.Proofs.Ytgjnhfciphiciaa
open Go.RowKit
set_option linter.unusedVariables false

theorem OwnBools.some_ {w : World} {base : Nat} {A : Option Addr} {cap : Nat} {zs : List Bool} (h : OwnBools w base A cap zs) (hn : 0 < zs.length) : ∃ b, A = some ⟨b, 0, none⟩ := by
  obtain ⟨g, c, hv, _, _⟩ := World.ownsRow.form h hn
  injection hv with hA _ _
  exact ⟨g, hA⟩
theorem OwnBools.keep {w w' : World} {base : Nat} {A : Option Addr} {cap : Nat} {zs : List Bool} (h : OwnBools w base A cap zs) {row : Option Nat} (hg : w.grownBy w' row) (hr : ∀ k, row = some k → k < base) : OwnBools w' base A cap zs := by
  refine World.ownsRow.kept h hg ?_
  rcases h.2 with ⟨hv, _⟩ | ⟨g, c, cur, hv, hb, _⟩
  · left; rw [hv]; rfl
  · right
    rw [hv]
    intro e
    have := hr g (by simpa [Value.ownBlock] using e.symm)
    omega
theorem rd_base {w : World} {B g : Nat} {A : Option Addr} {len cap p : Nat} (h : Rd w B g A len cap p) : B ≤ w.heap.size ∧ g < w.heap.size := ⟨by have := h.lt; have := h.big; omega, h.lt⟩

/-- Where the reader stands and what was drawn so far. -/
structure DrawingB (w : World) (B g : Nat) (A : Option Addr) (len cap : Nat) (base : Nat) (X : Option Addr) (c : Nat) (zs : List Bool) (p' : Nat) (w' : World) : Prop where
  own : OwnBools w' base X c zs
  some_ : ∃ b, X = some ⟨b, 0, none⟩
  rd : Rd w' B g A len cap p'
  below : Below B w w'
  size : base ≤ w'.heap.size
  far : g < base
  kept : ∀ i, i < base → i ≠ g → w'.heap[i]? = w.heap[i]?

def BitsDrawn (w : World) (B g : Nat) (A : Option Addr) (len cap p : Nat) (e : Ending) (w' : World) : Prop :=
  ∃ X c zs p', e = .returned (.slice X zs.length c) ∧ zs.length ≤ 18 ∧ p' ≤ p + 60 ∧ DrawingB w B g A len cap w.heap.size X c zs p' w'

theorem DrawingB.pick {w : World} {B g : Nat} {A : Option Addr} {len cap base : Nat} {X : Option Addr} {c : Nat} {zs : List Bool} {p' p2 : Nat} {w1 w2 : World} (h : DrawingB w B g A len cap base X c zs p' w1) (hR : Rd w2 B g A len cap p2) (hg : w1.grownBy w2 (some g)) : DrawingB w B g A len cap base X c zs p2 w2 :=
  ⟨h.own.keep hg (fun k hk => by injection hk with hk; have := h.far; omega), h.some_, hR, h.below.trans ((Below.refl B w1).grown hg (by have := h.rd.lt; have := h.rd.big; omega) (fun k hk => by injection hk with hk; have := h.rd.big; omega)), Nat.le_trans h.size hg.size, h.far,
   fun i hi hne => (hg.block i (by have := h.size; omega) (fun e => hne (by injection e))).trans (h.kept i hi hne)⟩
theorem DrawingB.app {w : World} {B g : Nat} {A : Option Addr} {len cap base : Nat} {X : Option Addr} {c : Nat} {zs ys : List Bool} {p' : Nat} {w1 w2 : World} {v : Value} (h : DrawingB w B g A len cap base X c zs p' w1) (hB : B ≤ base) (o : Obj)
    (hA : AppendedB (w1.alloc o) base X zs.length c ys v w2) (hy : 0 < ys.length) : ∃ X' c', v = .slice X' ys.length c' ∧ DrawingB w B g A len cap base X' c' ys p' w2 := by
  obtain ⟨⟨X', c', hv, hown⟩, hg, hbel⟩ := hA
  have hr : ∀ k, Value.ownBlock (.slice X zs.length c) = some k → base ≤ k := fun k hk => h.own.far (n := zs.length) k hk
  refine ⟨X', c', hv, hown, hown.some_ hy, ?_, ?_, ?_, h.far, ?_⟩
  · exact (h.rd.alloc o).grown hg (fun k hk => by have := hr k hk; have := h.far; exact ⟨by omega, by omega⟩)
  · exact (h.below.alloc (by have := h.rd.lt; have := h.rd.big; omega) o).trans (hbel.mono hB)
  · have := hg.size
    have := h.size
    simp at *; omega
  · intro i hi hne
    have hs := h.size
    rw [hg.block i (by simp; omega) (fun e => by have := hr i e.symm; omega), Below.heap_alloc w1 o i (by omega)]
    exact h.kept i hi hne

set_option maxHeartbeats 4000000 in
set_option maxRecDepth 100000 in
theorem bitsdraw_any {B g len cap p : Nat} {A : Option Addr} {w : World} (hR : Rd w B g A len cap p) (hp : p ≤ 90000) :
    Calls Try.prog 36 #[.pointer (some ⟨g, 0, none⟩)] w (BitsDrawn w B g A len cap p) := by
  have HR := Lib.hid hR
  obtain ⟨hBw, hgw⟩ := rd_base hR
  clear hR
  go_enter Try.func36, Try.ntmps36
  go_wp2_with fail
  refine (pick_any 17 (HR.out.alloc _) (by omega) (by omega) (by omega)).mono ?_
  rintro e w1 ⟨n0, hn0, rfl, hR1, hg1, hz1⟩
  have HD : Hid (DrawingB w B g A len cap w.heap.size (some ⟨w.heap.size, 0, none⟩) 0 [] (p + 1) w1) := by
    have h0 : DrawingB w B g A len cap w.heap.size (some ⟨w.heap.size, 0, none⟩) 0 [] p (w.alloc (.cells #[] 4)) :=
      ⟨OwnBools.new w, ⟨_, rfl⟩, HR.out.alloc _, (Below.refl _ _).alloc hBw _, by simp, hgw, fun i hi _ => Below.heap_alloc w _ i hi⟩
    exact h0.pick hR1 hg1
  clear hR1 hg1 hz1
  go_wp2_with fail
  refine (pick_any 24 HD.out.rd (by omega) (by omega) (by omega)).mono ?_
  rintro e w2 ⟨t, ht, rfl, hR2, hg2, hz2⟩
  have HD2 := Lib.hid (HD.out.pick hR2 hg2)
  clear hR2 hg2 hz2
  by_cases ht0 : t = 0
  · subst ht0
    go_wp2_with fail
    refine (pick_any 3 HD2.out.rd (by omega) (by omega) (by omega)).mono ?_
    rintro e w3 ⟨a, ha, rfl, hR3, hg3, hz3⟩
    have HD3 := Lib.hid (HD2.out.pick hR3 hg3)
    clear hR3 hg3 hz3
    obtain ⟨n, hn18, HN⟩ : ∃ n : Nat, n ≤ 18 ∧ Hid (16 + (a : Int) = (n : Int)) := ⟨16 + a, by omega, (by show _ = _; omega)⟩
    obtain ⟨pw, hpw, HD4⟩ : ∃ pw, pw ≤ p + 3 ∧ Hid (DrawingB w B g A len cap w.heap.size (some ⟨w.heap.size, 0, none⟩) 0 [] pw w3) := ⟨_, by omega, HD3⟩
    clear HD HD2 HD3
    go_wp2_with fail
    rw [HN.out]
    clear HN ha
    refine (pick_any 2 HD4.out.rd (by omega) (by omega) (by omega)).mono ?_
    rintro e w5 ⟨v, hv, rfl, hR5, hg5, hz5⟩
    have HD5 := Lib.hid (HD4.out.pick hR5 hg5)
    clear hR5 hg5 hz5 HD4
    obtain ⟨b0, HB0⟩ : ∃ b0, Hid (((v : Int) == 0) = b0) := ⟨_, rfl⟩
    go_wp2_with fail
    rw [HB0.out]
    clear HB0 hv
    go_loopw [3, 5, 6] (fun x y i w' => ∃ (X : Option Addr) (c : Nat) (zs : List Bool) (k p' : Nat) (b : Bool), k ≤ n ∧ x = .slice X k c ∧ y = .bool b ∧ i = .int .i64 k ∧ Hid (zs.length = k) ∧ p' ≤ pw + 1 + k ∧ Hid (DrawingB w B g A len cap w.heap.size X c zs p' w')) (fun _ _ i _ => n - (intOf i).toNat)
    case atStart => exact ⟨_, _, [], 0, pw + 1, b0, by omega, rfl, rfl, rfl, rfl, by omega, HD5⟩
    case round =>
      clear HD5
      obtain ⟨X, c, zs, k, p1, b, hk, rfl, rfl, rfl, HL, hp1, HD6⟩ := hrel
      by_cases hlt : k < n
      · go_wp2_with fail
        refine (pick_any 3 HD6.out.rd (by omega) (by omega) (by omega)).mono ?_
        rintro e w7 ⟨t7, ht7, rfl, hR7, hg7, hz7⟩
        have HD7 := Lib.hid (HD6.out.pick hR7 hg7)
        clear hR7 hg7 hz7
        have hs7 := HD7.out.size
        by_cases ht70 : t7 = 0
        · subst ht70
          go_wp2_with (at_builtin; refine wpList_app_bools rfl (.tmp 29) (.tmp 31) rfl _ w.heap.size X c zs (by rw [HL.out]; rfl) _ _ [!b] rfl (HD7.out.own.alloc _) (one_newB _ _) (by rw [HL.out]; simp; omega) (by simp; omega) (by simp) ?_; intro v8 w8 hA)
          obtain ⟨X', c', rfl, hD8⟩ := HD7.out.app hBw _ hA (by simp)
          have HD8 := Lib.hid hD8
          have hlen : (zs ++ [!b]).length = k + 1 := by rw [List.length_append, HL.out]; rfl
          rw [hlen]
          have HL8 := Lib.hid hlen
          clear hA hD8 hlen
          go_wp2
          go_roundw
          case rel => exact ⟨X', c', _, k + 1, _, !b, by omega, by simp, by simp, by go_num, HL8, by omega, HD8⟩
          case measure => simp [intOf]; omega
        · have ht7' : ((t7 : Int) == 0) = false := by simp; omega
          go_wp2_with (at_builtin; refine wpList_app_bools rfl (.tmp 29) (.tmp 31) rfl _ w.heap.size X c zs (by rw [HL.out]; rfl) _ _ [b] rfl (HD7.out.own.alloc _) (one_newB _ _) (by rw [HL.out]; simp; omega) (by simp; omega) (by simp) ?_; intro v8 w8 hA)
          obtain ⟨X', c', rfl, hD8⟩ := HD7.out.app hBw _ hA (by simp)
          have HD8 := Lib.hid hD8
          have hlen : (zs ++ [b]).length = k + 1 := by rw [List.length_append, HL.out]; rfl
          rw [hlen]
          have HL8 := Lib.hid hlen
          clear hA hD8 hlen
          go_wp2
          go_roundw
          case rel => exact ⟨X', c', _, k + 1, _, b, by omega, by simp, rfl, by go_num, HL8, by omega, HD8⟩
          case measure => simp [intOf]; omega
      · have hkn : k = n := by omega
        subst hkn
        go_wp2
        go_ret
        exact ⟨X, c, zs, _, by rw [HL.out]; rfl, by rw [HL.out]; omega, by omega, HD6.out⟩
  · have ht0' : ((t : Int) == 0) = false := by simp; omega
    obtain ⟨n, hn18, rfl⟩ : ∃ n : Nat, n ≤ 18 ∧ n = n0 := ⟨n0, by omega, rfl⟩
    obtain ⟨pw, hpw, HD4⟩ : ∃ pw, pw ≤ p + 3 ∧ Hid (DrawingB w B g A len cap w.heap.size (some ⟨w.heap.size, 0, none⟩) 0 [] pw w2) := ⟨_, by omega, HD2⟩
    clear HD HD2 ht0
    go_wp2_with fail
    refine (pick_any 2 HD4.out.rd (by omega) (by omega) (by omega)).mono ?_
    rintro e w5 ⟨v, hv, rfl, hR5, hg5, hz5⟩
    have HD5 := Lib.hid (HD4.out.pick hR5 hg5)
    clear hR5 hg5 hz5 HD4
    obtain ⟨b0, HB0⟩ : ∃ b0, Hid (((v : Int) == 0) = b0) := ⟨_, rfl⟩
    go_wp2_with fail
    rw [HB0.out]
    clear HB0 hv
    go_loopw [3, 5, 6] (fun x y i w' => ∃ (X : Option Addr) (c : Nat) (zs : List Bool) (k p' : Nat) (b : Bool), k ≤ n ∧ x = .slice X k c ∧ y = .bool b ∧ i = .int .i64 k ∧ Hid (zs.length = k) ∧ p' ≤ pw + 1 + k ∧ Hid (DrawingB w B g A len cap w.heap.size X c zs p' w')) (fun _ _ i _ => n - (intOf i).toNat)
    case atStart => exact ⟨_, _, [], 0, pw + 1, b0, by omega, rfl, rfl, rfl, rfl, by omega, HD5⟩
    case round =>
      clear HD5
      obtain ⟨X, c, zs, k, p1, b, hk, rfl, rfl, rfl, HL, hp1, HD6⟩ := hrel
      by_cases hlt : k < n
      · go_wp2_with fail
        refine (pick_any 3 HD6.out.rd (by omega) (by omega) (by omega)).mono ?_
        rintro e w7 ⟨t7, ht7, rfl, hR7, hg7, hz7⟩
        have HD7 := Lib.hid (HD6.out.pick hR7 hg7)
        clear hR7 hg7 hz7
        have hs7 := HD7.out.size
        by_cases ht70 : t7 = 0
        · subst ht70
          go_wp2_with (at_builtin; refine wpList_app_bools rfl (.tmp 29) (.tmp 31) rfl _ w.heap.size X c zs (by rw [HL.out]; rfl) _ _ [!b] rfl (HD7.out.own.alloc _) (one_newB _ _) (by rw [HL.out]; simp; omega) (by simp; omega) (by simp) ?_; intro v8 w8 hA)
          obtain ⟨X', c', rfl, hD8⟩ := HD7.out.app hBw _ hA (by simp)
          have HD8 := Lib.hid hD8
          have hlen : (zs ++ [!b]).length = k + 1 := by rw [List.length_append, HL.out]; rfl
          rw [hlen]
          have HL8 := Lib.hid hlen
          clear hA hD8 hlen
          go_wp2
          go_roundw
          case rel => exact ⟨X', c', _, k + 1, _, !b, by omega, by simp, by simp, by go_num, HL8, by omega, HD8⟩
          case measure => simp [intOf]; omega
        · have ht7' : ((t7 : Int) == 0) = false := by simp; omega
          go_wp2_with (at_builtin; refine wpList_app_bools rfl (.tmp 29) (.tmp 31) rfl _ w.heap.size X c zs (by rw [HL.out]; rfl) _ _ [b] rfl (HD7.out.own.alloc _) (one_newB _ _) (by rw [HL.out]; simp; omega) (by simp; omega) (by simp) ?_; intro v8 w8 hA)
          obtain ⟨X', c', rfl, hD8⟩ := HD7.out.app hBw _ hA (by simp)
          have HD8 := Lib.hid hD8
          have hlen : (zs ++ [b]).length = k + 1 := by rw [List.length_append, HL.out]; rfl
          rw [hlen]
          have HL8 := Lib.hid hlen
          clear hA hD8 hlen
          go_wp2
          go_roundw
          case rel => exact ⟨X', c', _, k + 1, _, b, by omega, by simp, rfl, by go_num, HL8, by omega, HD8⟩
          case measure => simp [intOf]; omega
      · have hkn : k = n := by omega
        subst hkn
        go_wp2
        go_ret
        exact ⟨X, c, zs, _, by rw [HL.out]; rfl, by rw [HL.out]; omega, by omega, HD6.out⟩

def BitsListDrawn (w : World) (e : Ending) (w' : World) : Prop :=
  ∃ b c zs, e = .returned (.slice (some ⟨b, 0, none⟩) zs.length c) ∧ zs.length ≤ 18 ∧ OwnBools w' w.heap.size (some ⟨b, 0, none⟩) c zs ∧ Below w.heap.size w w'





end Go.Proofs.Ytgjnhfciphiciaa
