/- Contracts of the draws of what peers gave, with a turn or a peer: at most 7 numbers in memory of the call's own; the reader moves on. Condition: the code's bytes lie in memory. -/
import Derived.Test.YtmlichpokjfnnaaBaseC
import Derived.Test.YtmlichpokjfnnaaBaseA
import Derived.Test.YtmlichpokjfnnaaBlk
import Derived.Deep.DeepCutAuto
import Derived.Lib.Hide
namespace Go.Proofs.Ytmlichpokjfnnaa
open Go.RowKit
set_option linter.unusedVariables false

theorem quoG (a n : Nat) (hn : 0 < n) (h : (a : Int) < (n : Int) + 1) : ∃ q : Nat, (a : Int).tdiv (n : Int) = (q : Int) ∧ q ≤ 1 := by
  refine ⟨a / n, by rw [Int.tdiv_eq_ediv_of_nonneg (by omega)]; exact (Int.natCast_ediv a n).symm, ?_⟩
  have h1 : a ≤ n := by omega
  calc a / n ≤ n / n := Nat.div_le_div_right h1
    _ = 1 := Nat.div_self hn
theorem three_new (W : World) (a b c : Int) : IntsAt (W.alloc (.cells #[.int .i64 a, .int .i64 b, .int .i64 c] 3)) (W.alloc (.cells #[.int .i64 a, .int .i64 b, .int .i64 c] 3)).heap.size (some ⟨W.heap.size, 0, none⟩) [a, b, c] := fun _ => by
  have hb := Blk.new W 3 #[.int .i64 a, .int .i64 b, .int .i64 c]
  refine ⟨W.heap.size, 0, rfl, by simp, fun k hk => ?_⟩
  rw [Nat.zero_add, hb.cell k]
  rcases k with _ | _ | _ | k
  · rfl
  · rfl
  · rfl
  · simp at hk; omega
theorem Drawing.laid {w : World} {B g : Nat} {A : Option Addr} {len cap p base : Nat} {X : Option Addr} {c : Nat} {zs : List Int} {p' : Nat} {w1 : World} (h : Drawing w B g A len cap p base X c zs p' w1) (o : Obj) : Drawing w B g A len cap p base X c zs p' (w1.alloc o) :=
  ⟨h.own.alloc o, h.near, h.some_, h.rd.alloc o, h.below.alloc (by have := h.rd.lt; have := h.rd.big; omega) o, Nat.le_trans h.size (by simp), h.far, h.top, World.grownBy.trans h.grown (grown_of_alloc w1 o _)⟩

def GivenDrawn (w : World) (B g : Nat) (A : Option Addr) (len cap p : Nat) (e : Ending) (w' : World) : Prop :=
  ∃ X c zs p', e = .returned (.slice X zs.length c) ∧ zs.length ≤ 7 ∧ p' ≤ p + 30 ∧ Drawing w B g A len cap p w.heap.size X c zs p' w'

set_option maxHeartbeats 8000000 in
set_option maxRecDepth 100000 in
theorem givendraw_any {B g len cap p : Nat} {A : Option Addr} {w : World} (hR : Rd w B g A len cap p) (hp : p ≤ 90000) :
    Calls Try.prog 30 #[.pointer (some ⟨g, 0, none⟩)] w (GivenDrawn w B g A len cap p) := by
  have HR := Lib.hid hR
  obtain ⟨hBw, hgw⟩ := hR.base
  clear hR
  go_enter Try.func30, Try.ntmps30
  go_wp2_with fail
  refine (pick_any 7 (HR.out.alloc _) (by omega) (by omega) (by omega)).mono ?_
  rintro e w1 ⟨n, hn, rfl, hR1, hg1, hz1⟩
  have HD : Hid (Drawing w B g A len cap p w.heap.size (some ⟨w.heap.size, 0, none⟩) 0 [] (p + 1) w1) := by
    have h0 : Drawing w B g A len cap p w.heap.size (some ⟨w.heap.size, 0, none⟩) 0 [] p (w.alloc (.cells #[] 3)) :=
      ⟨OwnInts.new w, (fun x hx => by cases hx), ⟨_, rfl⟩, HR.out.alloc _, (Below.refl _ _).alloc hBw _, by simp, hgw, Nat.le_refl _, grown_of_alloc w _ _⟩
    exact h0.pick hR1 hg1
  clear hR1 hg1 hz1
  go_wp2
  go_loopw [3, 5] (fun x i w' => ∃ (X : Option Addr) (c : Nat) (zs : List Int) (k p' : Nat), k ≤ n ∧ x = .slice X k c ∧ i = .int .i64 (k : Int) ∧ Hid (zs.length = k) ∧ p' ≤ p + 1 + 3 * k ∧ Hid (Drawing w B g A len cap p w.heap.size X c zs p' w')) (fun _ i _ => n - (intOf i).toNat)
  case atStart => exact ⟨_, _, [], 0, p + 1, by omega, rfl, rfl, rfl, by omega, HD⟩
  case round =>
    obtain ⟨X, c, zs, k, p1, hk, rfl, rfl, HL, hp1, HD1⟩ := hrel
    by_cases hlt : k < n
    · go_wp2_with fail
      refine (pick_any 5 HD1.out.rd (by omega) (by omega) (by omega)).mono ?_
      rintro e w2 ⟨a, ha, rfl, hR2, hg2, hz2⟩
      have HD2 := Lib.hid (HD1.out.pick hR2 hg2)
      clear hR2 hg2 hz2
      go_wp2_with fail
      refine (pick_any 4 HD2.out.rd (by omega) (by omega) (by omega)).mono ?_
      rintro e w3 ⟨b, hb, rfl, hR3, hg3, hz3⟩
      have HD3 := Lib.hid (HD2.out.pick hR3 hg3)
      clear hR3 hg3 hz3
      obtain ⟨m, hm, hm12⟩ : ∃ m : Nat, (a : Int) * (b : Int) = (m : Int) ∧ m ≤ 12 := ⟨a * b, by rw [Int.natCast_mul], Nat.le_trans (Nat.mul_le_mul (show a ≤ 4 by omega) (show b ≤ 3 by omega)) (by decide)⟩
      go_wp2_with fail
      refine (pick_any 12 HD3.out.rd (by omega) (by omega) (by omega)).mono ?_
      rintro e w4 ⟨d, hd, rfl, hR4, hg4, hz4⟩
      have HD4 := Lib.hid (HD3.out.pick hR4 hg4)
      obtain ⟨q, hq, hq1⟩ := quoG d 11 (by omega) hd
      have hq' : (d : Int).tdiv 11 = (q : Int) := hq
      clear hR4 hg4 hz4 hq
      have hs4 := HD4.out.size
      go_wp2_with (at_builtin; refine wpList_app_ints rfl (.tmp 14) (.tmp 25) rfl _ w.heap.size X c zs (by rw [HL.out]; rfl) _ _ [(m : Int) + (q : Int) * 90] rfl (HD4.out.own.alloc _) (one_new _ _) (by rw [HL.out]; simp; omega) (by simp; omega) (by simp) ?_; intro v w5 hA)
      obtain ⟨X', c', rfl, hD5⟩ := HD4.out.app hBw (some _) hA (by simp) (HD4.out.near.snoc (by omega))
      have HD5 := Lib.hid hD5
      have hlen : (zs ++ [(m : Int) + (q : Int) * 90]).length = k + 1 := by rw [List.length_append, HL.out]; rfl
      rw [hlen]
      have HL5 := Lib.hid hlen
      clear hA hD5 hlen
      go_wp2
      go_roundw
      case rel => exact ⟨X', c', _, k + 1, _, by omega, rfl, by go_num, HL5, by omega, HD5⟩
      case measure => simp [intOf]; omega
    · have hkn : k = n := by omega
      subst hkn
      go_wp2_with fail
      refine (pick_any 20 HD1.out.rd (by omega) (by omega) (by omega)).mono ?_
      rintro e w2 ⟨t, ht, rfl, hR2, hg2, hz2⟩
      have HD2 := Lib.hid (HD1.out.pick hR2 hg2)
      clear hR2 hg2 hz2
      by_cases ht0 : t = 0
      · subst ht0
        go_wp2_with fail
        refine (pick_any 100 HD2.out.rd (by omega) (by omega) (by omega)).mono ?_
        rintro e w3 ⟨j, hj, rfl, hR3, hg3, hz3⟩
        have HD3 := Lib.hid (HD2.out.pick hR3 hg3)
        clear hR3 hg3 hz3
        have hs3 := HD3.out.size
        go_wp2_with (at_builtin; refine wpList_app_ints rfl (.tmp 31) (.tmp 34) rfl _ w.heap.size X c zs (by rw [HL.out]; rfl) _ _ [(j : Int)] rfl (HD3.out.own.alloc _) (one_new _ _) (by rw [HL.out]; simp; omega) (by simp; omega) (by simp) ?_; intro v w5 hA)
        obtain ⟨X', c', rfl, hD5⟩ := HD3.out.app hBw (some _) hA (by simp) (HD3.out.near.snoc (by omega))
        have HD5 := Lib.hid hD5
        have hlen : (zs ++ [(j : Int)]).length = k + 1 := by rw [List.length_append, HL.out]; rfl
        have HL5 := Lib.hid hlen
        clear hA hD5 hlen
        go_wp2
        go_ret
        exact ⟨X', c', _, _, rfl, by rw [HL5.out]; omega, by omega, HD5.out⟩
      · have ht0' : ((t : Int) == 0) = false := by simp; omega
        by_cases ht1 : t = 1
        · subst ht1
          by_cases hk0 : 0 < k
          · go_wp2_with fail
            refine (pick_any k HD2.out.rd (by omega) (by omega) (by omega)).mono ?_
            rintro e w3 ⟨j, hj, rfl, hR3, hg3, hz3⟩
            have HD3 := Lib.hid (HD2.out.pick hR3 hg3)
            clear hR3 hg3 hz3
            have hI3 := three_new w3 (-1) 99 100
            go_wp2_with fail
            refine (pick_any 3 (HD3.out.rd.alloc _) (by omega) (by omega) (by omega)).mono ?_
            rintro e w4 ⟨s, hs, rfl, hR4, hg4, hz4⟩
            have HD4 := Lib.hid ((HD3.out.laid _).pick hR4 hg4)
            have hgl : g < w3.heap.size := by have := HD3.out.size; have := HD3.out.far; omega
            have hcs : ∀ k, k < 3 → w4.cell? ⟨w3.heap.size, k, none⟩ = some (.int .i64 (nth [-1, 99, 100] k)) := fun k hk => by
              have h := (hI3.lt (by simp)).2 k (by simpa using hk)
              rw [Nat.zero_add] at h
              exact (World.cell?_of_block (hg4.block w3.heap.size (by simp) (fun e => by injection e with e; omega))).trans h
            clear hR4 hg4 hz4 hI3
            obtain ⟨b, hX⟩ := HD4.out.some_
            subst hX
            have hown := HD4.out.own
            have hjz : j < zs.length := by rw [HL.out]; omega
            have hcell : w4.cell? ⟨b, j, none⟩ = some (.int .i64 (nth zs j)) := by
              have h1 := (hown.ints.lt (by omega)).2 j hjz
              rw [Nat.zero_add] at h1
              exact h1
            have hfro : w4.frozen? ⟨b, j, none⟩ = false := World.ownsRow.frozenAt hown j
            have hji : (j : Int) < (k : Int) := by omega
            have hs3 : s < 3 := by omega
            obtain ⟨d, HDD, hd1, hd2⟩ : ∃ d, Hid (nth [-1, 99, 100] s = d) ∧ -1 ≤ d ∧ d ≤ 991 := by
              refine ⟨_, rfl, ?_, ?_⟩ <;> (obtain rfl | rfl | rfl : s = 0 ∨ s = 1 ∨ s = 2 := by omega) <;> decide
            have hcl := hcs s hs3
            rw [HDD.out] at hcl
            clear hown hjz hcs
            go_wp2
            go_ret
            have hD := HD4.out
            refine ⟨_, c, zs.set j d, p1 + 1 + 1 + 1, by rw [List.length_set, HL.out]; rfl, by rw [List.length_set, HL.out]; omega, ?_, hD.own.stored j d, hD.near.set j ⟨hd1, hd2⟩, ⟨b, rfl⟩, ?_, ?_, ?_, hD.far, hD.top, grown_far hD.grown (grown_set _ b j _) (fun k hk => by injection hk with hk; have := hD.own.far (n := zs.length) b rfl; have := hD.top; omega)⟩
            rotate_left
            · have hbb := hD.own.far (n := zs.length) b rfl
              exact hD.rd.setOther (q := ⟨b, j, none⟩) (by show B ≤ b; omega) (by show b ≠ g; omega) _
            · have hbb := hD.own.far (n := zs.length) b rfl
              exact hD.below.setCell (p := ⟨b, j, none⟩) (by show B ≤ b; omega) _
            · have := hD.size; simp [World.setCell]; exact this
            · omega
          · have hk00 : k = 0 := by omega
            subst hk00
            go_wp2
            go_ret
            exact ⟨X, c, zs, _, by rw [HL.out]; rfl, by rw [HL.out]; omega, by omega, HD2.out⟩
        · have ht1' : ((t : Int) == 1) = false := by simp; omega
          go_wp2
          go_ret
          exact ⟨X, c, zs, _, by rw [HL.out]; rfl, by rw [HL.out]; omega, by omega, HD2.out⟩

/-- What peers gave, and a turn or a peer. -/
def GivenAnd (w : World) (e : Ending) (w' : World) : Prop :=
  ∃ (X : Option Addr) (c : Nat) (gs : List Int) (t : Int), e = .returned (.tuple #[.slice X gs.length c, .int .i64 t]) ∧ gs.length ≤ 7 ∧ -100 ≤ t ∧ t ≤ 1100 ∧ OwnInts w' w.heap.size X c gs ∧ Below w.heap.size w w'
/-- What peers gave. -/
def GivenOnly (w : World) (e : Ending) (w' : World) : Prop :=
  ∃ (X : Option Addr) (c : Nat) (gs : List Int), e = .returned (.slice X gs.length c) ∧ gs.length ≤ 7 ∧ OwnInts w' w.heap.size X c gs ∧ Below w.heap.size w w'

set_option maxHeartbeats 4000000 in
set_option maxRecDepth 100000 in
theorem drawChokeServed_any (A : Option Addr) (len cap : Nat) (w : World) (hI : In w A len cap) :
    Calls Try.prog 15 #[.slice A len cap] w (GivenAnd w) := by
  have HI := Lib.hid hI
  clear hI
  go_enter Try.func15, Try.ntmps15
  go_wp2_with fail
  refine (open_any A len cap _ HI.out).mono ?_
  rintro e w1 ⟨len', cap', rfl, hR1, hb1⟩
  have HR1 := Lib.hid hR1
  have HB1 := Lib.hid hb1
  clear hR1 hb1
  go_wp2_with fail
  refine (givendraw_any HR1.out (by omega)).mono ?_
  rintro e w2 ⟨X, c, gs, p2, rfl, hl7, hp2, hD2⟩
  have HD2 := Lib.hid hD2
  clear hD2
  go_wp2_with fail
  refine (pick_any 20 HD2.out.rd (by omega) (by omega) (by omega)).mono ?_
  rintro e w3 ⟨x3, hx3, rfl, hR3, hg3, hz3⟩
  have HD3 := Lib.hid (HD2.out.pick hR3 hg3)
  clear hR3 hg3 hz3 HD2
  go_wp2_with fail
  refine (pick_any 20 HD3.out.rd (by omega) (by omega) (by omega)).mono ?_
  rintro e w4 ⟨x4, hx4, rfl, hR4, hg4, hz4⟩
  have HD4 := Lib.hid (HD3.out.pick hR4 hg4)
  obtain ⟨q4, hq4, hq41⟩ := quoG x4 19 (by omega) hx4
  have hq4' : (x4 : Int).tdiv 19 = (q4 : Int) := hq4
  clear hR4 hg4 hz4 HD3 hq4
  go_wp2_with fail
  refine (pick_any 20 HD4.out.rd (by omega) (by omega) (by omega)).mono ?_
  rintro e w5 ⟨x5, hx5, rfl, hR5, hg5, hz5⟩
  have HD5 := Lib.hid (HD4.out.pick hR5 hg5)
  obtain ⟨q5, hq5, hq51⟩ := quoG x5 19 (by omega) hx5
  have hq5' : (x5 : Int).tdiv 19 = (q5 : Int) := hq5
  clear hR5 hg5 hz5 HD4 hq5
  go_wp2
  go_ret2
  exact ⟨X, c, gs, (x3 : Int) + (q4 : Int) * 980 - (q5 : Int), rfl, hl7, by omega, by omega, HD5.out.own.base_le HB1.out.size, HB1.out.trans HD5.out.below⟩

set_option maxHeartbeats 4000000 in
set_option maxRecDepth 100000 in
theorem drawChokeTurn_any (A : Option Addr) (len cap : Nat) (w : World) (hI : In w A len cap) :
    Calls Try.prog 21 #[.slice A len cap] w (GivenAnd w) := by
  have HC := Lib.hid (drawChokeServed_any A len cap w hI)
  clear hI
  go_enter Try.func21, Try.ntmps21
  go_wp2_with fail
  refine HC.out.mono ?_
  rintro e w1 ⟨X, c, gs, t, rfl, h7, h1, h2, ho, hb⟩
  have HO := Lib.hid ho
  have HB := Lib.hid hb
  clear ho hb HC
  go_wp2
  go_ret2
  exact ⟨X, c, gs, t, rfl, h7, h1, h2, HO.out, HB.out⟩

set_option maxHeartbeats 4000000 in
set_option maxRecDepth 100000 in
theorem drawChokeGive_any (A : Option Addr) (len cap : Nat) (w : World) (hI : In w A len cap) :
    Calls Try.prog 23 #[.slice A len cap] w (GivenAnd w) := by
  have HI := Lib.hid hI
  clear hI
  go_enter Try.func23, Try.ntmps23
  go_wp2_with fail
  refine (open_any A len cap _ HI.out).mono ?_
  rintro e w1 ⟨len', cap', rfl, hR1, hb1⟩
  have HR1 := Lib.hid hR1
  have HB1 := Lib.hid hb1
  clear hR1 hb1
  go_wp2_with fail
  refine (givendraw_any HR1.out (by omega)).mono ?_
  rintro e w2 ⟨X, c, gs, p2, rfl, hl7, hp2, hD2⟩
  have HD2 := Lib.hid hD2
  clear hD2
  obtain ⟨n, HN⟩ : ∃ n, Hid (gs.length = n) := ⟨_, rfl⟩
  rw [HN.out] at hl7 ⊢
  by_cases h1n : 1 ≤ n
  · have hmx : max (n : Int) 1 = (n : Int) := by omega
    go_wp2_with fail
    refine (pick_any n HD2.out.rd (by omega) (by omega) (by omega)).mono ?_
    rintro e w3 ⟨x3, hx3, rfl, hR3, hg3, hz3⟩
    have HD3 := Lib.hid (HD2.out.pick hR3 hg3)
    clear hR3 hg3 hz3 HD2
    go_wp2_with fail
    refine (pick_any 16 HD3.out.rd (by omega) (by omega) (by omega)).mono ?_
    rintro e w4 ⟨x4, hx4, rfl, hR4, hg4, hz4⟩
    have HD4 := Lib.hid (HD3.out.pick hR4 hg4)
    obtain ⟨q4, hq4, hq41⟩ := quoG x4 15 (by omega) hx4
    have hq4' : (x4 : Int).tdiv 15 = (q4 : Int) := hq4
    clear hR4 hg4 hz4 HD3 hq4
    go_wp2_with fail
    refine (pick_any 16 HD4.out.rd (by omega) (by omega) (by omega)).mono ?_
    rintro e w5 ⟨x5, hx5, rfl, hR5, hg5, hz5⟩
    have HD5 := Lib.hid (HD4.out.pick hR5 hg5)
    obtain ⟨q5, hq5, hq51⟩ := quoG x5 15 (by omega) hx5
    have hq5' : (x5 : Int).tdiv 15 = (q5 : Int) := hq5
    clear hR5 hg5 hz5 HD4 hq5
    go_wp2
    go_ret2
    exact ⟨X, c, gs, (x3 : Int) + (q4 : Int) - (q5 : Int) * 2, by rw [HN.out]; rfl, by rw [HN.out]; omega, by omega, by omega, HD5.out.own.base_le HB1.out.size, HB1.out.trans HD5.out.below⟩
  · have hmx : max (n : Int) 1 = 1 := by omega
    go_wp2_with fail
    refine (pick_any 1 HD2.out.rd (by omega) (by omega) (by omega)).mono ?_
    rintro e w3 ⟨x3, hx3, rfl, hR3, hg3, hz3⟩
    have HD3 := Lib.hid (HD2.out.pick hR3 hg3)
    clear hR3 hg3 hz3 HD2
    go_wp2_with fail
    refine (pick_any 16 HD3.out.rd (by omega) (by omega) (by omega)).mono ?_
    rintro e w4 ⟨x4, hx4, rfl, hR4, hg4, hz4⟩
    have HD4 := Lib.hid (HD3.out.pick hR4 hg4)
    obtain ⟨q4, hq4, hq41⟩ := quoG x4 15 (by omega) hx4
    have hq4' : (x4 : Int).tdiv 15 = (q4 : Int) := hq4
    clear hR4 hg4 hz4 HD3 hq4
    go_wp2_with fail
    refine (pick_any 16 HD4.out.rd (by omega) (by omega) (by omega)).mono ?_
    rintro e w5 ⟨x5, hx5, rfl, hR5, hg5, hz5⟩
    have HD5 := Lib.hid (HD4.out.pick hR5 hg5)
    obtain ⟨q5, hq5, hq51⟩ := quoG x5 15 (by omega) hx5
    have hq5' : (x5 : Int).tdiv 15 = (q5 : Int) := hq5
    clear hR5 hg5 hz5 HD4 hq5
    go_wp2
    go_ret2
    exact ⟨X, c, gs, (x3 : Int) + (q4 : Int) - (q5 : Int) * 2, by rw [HN.out]; rfl, by rw [HN.out]; omega, by omega, by omega, HD5.out.own.base_le HB1.out.size, HB1.out.trans HD5.out.below⟩

set_option maxHeartbeats 4000000 in
set_option maxRecDepth 100000 in
theorem drawChokeFade_any (A : Option Addr) (len cap : Nat) (w : World) (hI : In w A len cap) :
    Calls Try.prog 26 #[.slice A len cap] w (GivenOnly w) := by
  have HI := Lib.hid hI
  clear hI
  go_enter Try.func26, Try.ntmps26
  go_wp2_with fail
  refine (open_any A len cap _ HI.out).mono ?_
  rintro e w1 ⟨len', cap', rfl, hR1, hb1⟩
  have HR1 := Lib.hid hR1
  have HB1 := Lib.hid hb1
  clear hR1 hb1
  go_wp2_with fail
  refine (givendraw_any HR1.out (by omega)).mono ?_
  rintro e w2 ⟨X, c, gs, p2, rfl, hl7, hp2, hD2⟩
  have HD2 := Lib.hid hD2
  clear hD2
  go_wp2
  go_ret
  exact ⟨X, c, gs, rfl, hl7, HD2.out.own.base_le HB1.out.size, HB1.out.trans HD2.out.below⟩

end Go.Proofs.Ytmlichpokjfnnaa
