/- Contracts of the exact laws' markWorld and heldWorld at a new run: its feeds are marked, one after the other, and still hold their marks. Condition: the rows are the run's own. -/
import Derived.Test.YtkmebilhbjcfpaaWorldNewP
import Derived.Test.YtkmebilhbjcfpaaExactRowN
namespace Go.Proofs.Ytkmebilhbjcfpaa
open Go.RowKit
set_option linter.unusedVariables false

/-- The marks of a feed without blocks. -/
def markF1 (z : Nat) : FH := ⟨⟨(z : Int), ((z + 1 : Nat) : Int), ((z + 2 : Nat) : Int), ((z + 3 : Nat) : Int), [], []⟩, none, 0, none, 0⟩
def markFs (n : Nat) : List FH := (List.range n).map fun i => markF1 (1 + 4 * i)
theorem markFs_length (n : Nat) : (markFs n).length = n := by unfold markFs; rw [List.length_map, List.length_range]
theorem markFs_succ (n : Nat) : markFs (n + 1) = markFs n ++ [markF1 (1 + 4 * n)] := by unfold markFs; rw [List.range_succ, List.map_append]; rfl
theorem markFs_get (n k : Nat) (hk : k < n) : (markFs n)[k]? = some (markF1 (1 + 4 * k)) := by
  unfold markFs; rw [List.getElem?_map, List.getElem?_range hk]; rfl
theorem freshF_cons (p : Int) (m : Nat) : freshF p (m + 1) = ⟨newF p, none, 0, none, 0⟩ :: freshF p m := rfl
theorem markFs_mid (p : Int) (k n : Nat) (hk : k < n) : (markFs k ++ freshF p (n - k))[k]? = some ⟨newF p, none, 0, none, 0⟩ := by
  rw [List.getElem?_append_right (by rw [markFs_length]; omega), markFs_length, Nat.sub_self, show n - k = (n - (k + 1)) + 1 by omega, freshF_cons]; rfl
theorem markFs_step (p : Int) (k n : Nat) (hk : k < n) (x : FH) (hx : x = markF1 (1 + 4 * k)) : (markFs k ++ freshF p (n - k)).set k x = markFs (k + 1) ++ freshF p (n - (k + 1)) := by
  subst hx
  rw [List.set_append_right _ _ (by rw [markFs_length]; omega), markFs_length, Nat.sub_self, show n - k = (n - (k + 1)) + 1 by omega, freshF_cons, markFs_succ, List.append_assoc]
  rfl
theorem markFs_len (p : Int) (k n : Nat) (hk : k ≤ n) : (markFs k ++ freshF p (n - k)).length = n := by rw [List.length_append, markFs_length, freshF_length]; omega

set_option maxHeartbeats 1000000 in
theorem void_markStringS (A : Option Addr) (c : Nat) (z : Int) (w : World) : Calls Try.prog 65 #[.slice A 0 c, .int .i64 z] w fun e w' => e = .returned (.int .i64 z) ∧ w' = w := by
  go_enter Try.func65, Try.ntmps65
  go_wp2
  refine wp_loop_rounds 1 ?_
  rw [rounds_succ]
  go_wp2
  go_ret
  exact ⟨rfl, rfl⟩

set_option maxHeartbeats 1000000 in
theorem void_markBoolS (A : Option Addr) (c : Nat) (z : Int) (w : World) : Calls Try.prog 66 #[.slice A 0 c, .int .i64 z] w fun e w' => e = .returned (.int .i64 z) ∧ w' = w := by
  go_enter Try.func66, Try.ntmps66
  go_wp2
  refine wp_loop_rounds 1 ?_
  rw [rounds_succ]
  go_wp2
  go_ret
  exact ⟨rfl, rfl⟩

set_option maxHeartbeats 1000000 in
theorem void_markAskS (A : Option Addr) (c : Nat) (z : Int) (w : World) : Calls Try.prog 67 #[.slice A 0 c, .int .i64 z] w fun e w' => e = .returned (.int .i64 z) ∧ w' = w := by
  go_enter Try.func67, Try.ntmps67
  go_wp2
  refine wp_loop_rounds 1 ?_
  rw [rounds_succ]
  go_wp2
  go_ret
  exact ⟨rfl, rfl⟩

set_option maxHeartbeats 1000000 in
theorem void_markLinkS (A : Option Addr) (c : Nat) (z : Int) (w : World) : Calls Try.prog 37 #[.slice A 0 c, .int .i64 z] w fun e w' => e = .returned (.int .i64 z) ∧ w' = w := by
  go_enter Try.func37, Try.ntmps37
  go_wp2
  refine wp_loop_rounds 1 ?_
  rw [rounds_succ]
  go_wp2
  go_ret
  exact ⟨rfl, rfl⟩

set_option maxHeartbeats 1000000 in
theorem void_markPieceS (A : Option Addr) (c : Nat) (z : Int) (w : World) : Calls Try.prog 39 #[.slice A 0 c, .int .i64 z] w fun e w' => e = .returned (.int .i64 z) ∧ w' = w := by
  go_enter Try.func39, Try.ntmps39
  go_wp2
  refine wp_loop_rounds 1 ?_
  rw [rounds_succ]
  go_wp2
  go_ret
  exact ⟨rfl, rfl⟩

set_option maxHeartbeats 1000000 in
theorem void_markFeedS (A : Option Addr) (c : Nat) (z : Int) (w : World) : Calls Try.prog 36 #[.slice A 0 c, .int .i64 z] w fun e w' => e = .returned (.int .i64 z) ∧ w' = w := by
  go_enter Try.func36, Try.ntmps36
  go_wp2
  refine wp_loop_rounds 1 ?_
  rw [rounds_succ]
  go_wp2
  go_ret
  exact ⟨rfl, rfl⟩

set_option maxHeartbeats 1000000 in
theorem void_markAskSS (A : Option Addr) (c : Nat) (z : Int) (w : World) : Calls Try.prog 38 #[.slice A 0 c, .int .i64 z] w fun e w' => e = .returned (.int .i64 z) ∧ w' = w := by
  go_enter Try.func38, Try.ntmps38
  go_wp2
  refine wp_loop_rounds 1 ?_
  rw [rounds_succ]
  go_wp2
  go_ret
  exact ⟨rfl, rfl⟩

set_option maxHeartbeats 1000000 in
theorem void_heldStringS (A : Option Addr) (c : Nat) (z : Int) (w : World) : Calls Try.prog 70 #[.slice A 0 c, .int .i64 z] w fun e w' => e = .returned (.int .i64 z) ∧ w' = w := by
  go_enter Try.func70, Try.ntmps70
  go_wp2
  refine wp_loop_rounds 1 ?_
  rw [rounds_succ]
  go_wp2
  go_ret
  exact ⟨rfl, rfl⟩

set_option maxHeartbeats 1000000 in
theorem void_heldBoolS (A : Option Addr) (c : Nat) (z : Int) (w : World) : Calls Try.prog 71 #[.slice A 0 c, .int .i64 z] w fun e w' => e = .returned (.int .i64 z) ∧ w' = w := by
  go_enter Try.func71, Try.ntmps71
  go_wp2
  refine wp_loop_rounds 1 ?_
  rw [rounds_succ]
  go_wp2
  go_ret
  exact ⟨rfl, rfl⟩

set_option maxHeartbeats 1000000 in
theorem void_heldAskS (A : Option Addr) (c : Nat) (z : Int) (w : World) : Calls Try.prog 72 #[.slice A 0 c, .int .i64 z] w fun e w' => e = .returned (.int .i64 z) ∧ w' = w := by
  go_enter Try.func72, Try.ntmps72
  go_wp2
  refine wp_loop_rounds 1 ?_
  rw [rounds_succ]
  go_wp2
  go_ret
  exact ⟨rfl, rfl⟩

set_option maxHeartbeats 1000000 in
theorem void_heldLinkS (A : Option Addr) (c : Nat) (z : Int) (w : World) : Calls Try.prog 41 #[.slice A 0 c, .int .i64 z] w fun e w' => e = .returned (.int .i64 z) ∧ w' = w := by
  go_enter Try.func41, Try.ntmps41
  go_wp2
  refine wp_loop_rounds 1 ?_
  rw [rounds_succ]
  go_wp2
  go_ret
  exact ⟨rfl, rfl⟩

set_option maxHeartbeats 1000000 in
theorem void_heldPieceS (A : Option Addr) (c : Nat) (z : Int) (w : World) : Calls Try.prog 43 #[.slice A 0 c, .int .i64 z] w fun e w' => e = .returned (.int .i64 z) ∧ w' = w := by
  go_enter Try.func43, Try.ntmps43
  go_wp2
  refine wp_loop_rounds 1 ?_
  rw [rounds_succ]
  go_wp2
  go_ret
  exact ⟨rfl, rfl⟩

set_option maxHeartbeats 1000000 in
theorem void_heldFeedS (A : Option Addr) (c : Nat) (z : Int) (w : World) : Calls Try.prog 40 #[.slice A 0 c, .int .i64 z] w fun e w' => e = .returned (.int .i64 z) ∧ w' = w := by
  go_enter Try.func40, Try.ntmps40
  go_wp2
  refine wp_loop_rounds 1 ?_
  rw [rounds_succ]
  go_wp2
  go_ret
  exact ⟨rfl, rfl⟩

set_option maxHeartbeats 1000000 in
theorem void_heldAskSS (A : Option Addr) (c : Nat) (z : Int) (w : World) : Calls Try.prog 42 #[.slice A 0 c, .int .i64 z] w fun e w' => e = .returned (.int .i64 z) ∧ w' = w := by
  go_enter Try.func42, Try.ntmps42
  go_wp2
  refine wp_loop_rounds 1 ?_
  rw [rounds_succ]
  go_wp2
  go_ret
  exact ⟨rfl, rfl⟩

/-- The six cells of a feed of a row of the call's own. -/
theorem own_cells6 {w : World} {base b cap : Nat} {xs : List FH} (h : OwnRow FK w base (some ⟨b, 0, none⟩) cap xs) (k : Nat) (x : FH) (hx : xs[k]? = some x) :
    (w.cell? ⟨b, k * 6, none⟩ = some (.int .i64 x.f.p) ∧ w.frozen? ⟨b, k * 6, none⟩ = false) ∧ (w.cell? ⟨b, k * 6 + 1, none⟩ = some (.int .i64 x.f.l) ∧ w.frozen? ⟨b, k * 6 + 1, none⟩ = false) ∧ (w.cell? ⟨b, k * 6 + 2, none⟩ = some (.int .i64 x.f.d) ∧ w.frozen? ⟨b, k * 6 + 2, none⟩ = false) ∧ (w.cell? ⟨b, k * 6 + 3, none⟩ = some (.int .i64 x.f.s) ∧ w.frozen? ⟨b, k * 6 + 3, none⟩ = false) ∧ w.cell? ⟨b, k * 6 + 4, none⟩ = some (.slice x.a1 x.f.bs.length x.c1) ∧ w.cell? ⟨b, k * 6 + 5, none⟩ = some (.slice x.a2 x.f.hs.length x.c2) :=
  ⟨h.cellF k x hx 0 _ rfl, h.cellF k x hx 1 _ rfl, h.cellF k x hx 2 _ rfl, h.cellF k x hx 3 _ rfl, (h.cellF k x hx 4 _ rfl).1, (h.cellF k x hx 5 _ rfl).1⟩

set_option maxHeartbeats 4000000 in
set_option maxRecDepth 100000 in
theorem markFeeds_new (p : Int) (base b cap n : Nat) (w : World) (hO : OwnRow FK w base (some ⟨b, 0, none⟩) cap (freshF p n)) (hn : n ≤ 6) :
    Calls Try.prog 36 #[.slice (some ⟨b, 0, none⟩) n cap, .int .i64 1] w fun e w' => e = .returned (.int .i64 ((1 + 4 * n : Nat) : Int)) ∧ OwnRow FK w' base (some ⟨b, 0, none⟩) cap (markFs n) ∧ w.grownBy w' (some b) := by
  have HO := Lib.hid hO
  clear hO
  have V1 := Lib.hid (fun (z : Int) (U : World) => void_markStringS none 0 z U)
  have V2 := Lib.hid (fun (z : Int) (U : World) => void_markBoolS none 0 z U)
  go_enter Try.func36, Try.ntmps36
  go_wp2
  go_loopw [1, 5] (fun x i w' => ∃ k : Nat, k ≤ n ∧ x = .int .i64 ((1 + 4 * k : Nat) : Int) ∧ i = .int .i64 (k : Int) ∧ Hid (OwnRow FK w' base (some ⟨b, 0, none⟩) cap (markFs k ++ freshF p (n - k))) ∧ Hid (w.grownBy w' (some b))) (fun _ i _ => n - (intOf i).toNat)
  case atStart => exact ⟨0, Nat.zero_le _, rfl, rfl, HO, World.grownBy.refl _ _⟩
  case round =>
    obtain ⟨k, hk, rfl, rfl, HO1, HG⟩ := hrel
    by_cases hlt : k < n
    · have hki : (k : Int) < (n : Int) := by omega
      obtain ⟨z, HZ⟩ : ∃ x, Hid (1 + 4 * k = x) := ⟨_, rfl⟩
      have hzb : z ≤ 25 := by have := HZ.out; omega
      rw [HZ.out]
      have hx0 := markFs_mid p k n hlt
      have hl := markFs_len p k n hk
      have hw1 : IntKind.i64.wrap ((z : Int) + 1) = ((z + 1 : Nat) : Int) := by rw [show (z : Int) + 1 = ((z + 1 : Nat) : Int) by omega]; exact IntWalk.i64_in _ (by omega)
      have hw2 : IntKind.i64.wrap (((z + 1 : Nat) : Int) + 1) = ((z + 2 : Nat) : Int) := by rw [show ((z + 1 : Nat) : Int) + 1 = ((z + 2 : Nat) : Int) by omega]; exact IntWalk.i64_in _ (by omega)
      have hw3 : IntKind.i64.wrap (((z + 2 : Nat) : Int) + 1) = ((z + 3 : Nat) : Int) := by rw [show ((z + 2 : Nat) : Int) + 1 = ((z + 3 : Nat) : Int) by omega]; exact IntWalk.i64_in _ (by omega)
      have hw4 : IntKind.i64.wrap (((z + 3 : Nat) : Int) + 1) = ((z + 4 : Nat) : Int) := by rw [show ((z + 3 : Nat) : Int) + 1 = ((z + 4 : Nat) : Int) by omega]; exact IntWalk.i64_in _ (by omega)
      obtain ⟨z1, HZ1⟩ : ∃ x : Int, ((z + 1 : Nat) : Int) = x := ⟨_, rfl⟩
      obtain ⟨z2, HZ2⟩ : ∃ x : Int, ((z + 2 : Nat) : Int) = x := ⟨_, rfl⟩
      obtain ⟨z3, HZ3⟩ : ∃ x : Int, ((z + 3 : Nat) : Int) = x := ⟨_, rfl⟩
      obtain ⟨z4, HZ4⟩ : ∃ x : Int, ((z + 4 : Nat) : Int) = x := ⟨_, rfl⟩
      rw [HZ1] at hw1 hw2
      rw [HZ2] at hw2 hw3
      rw [HZ3] at hw3 hw4
      rw [HZ4] at hw4
      obtain ⟨⟨d0, e0⟩, ⟨d1, e1⟩, ⟨d2, e2⟩, ⟨d3, e3⟩, d4, d5⟩ := own_cells6 HO1.out k _ hx0
      have s1 := HO1.out.stored k _ ⟨⟨(z : Int), 0, 0, 0, [], []⟩, none, 0, none, 0⟩ hx0 0 (by decide) (.int .i64 (z : Int)) rfl
      have hx1 : ((markFs k ++ freshF p (n - k)).set k ⟨⟨(z : Int), 0, 0, 0, [], []⟩, none, 0, none, 0⟩)[k]? = some ⟨⟨(z : Int), 0, 0, 0, [], []⟩, none, 0, none, 0⟩ := List.getElem?_set_self (by omega)
      have s2 := s1.1.stored k _ ⟨⟨(z : Int), z1, 0, 0, [], []⟩, none, 0, none, 0⟩ hx1 1 (by decide) (.int .i64 z1) rfl
      rw [List.set_set] at s2
      have hx2 : ((markFs k ++ freshF p (n - k)).set k ⟨⟨(z : Int), z1, 0, 0, [], []⟩, none, 0, none, 0⟩)[k]? = some ⟨⟨(z : Int), z1, 0, 0, [], []⟩, none, 0, none, 0⟩ := List.getElem?_set_self (by omega)
      have s3 := s2.1.stored k _ ⟨⟨(z : Int), z1, z2, 0, [], []⟩, none, 0, none, 0⟩ hx2 2 (by decide) (.int .i64 z2) rfl
      rw [List.set_set] at s3
      have hx3 : ((markFs k ++ freshF p (n - k)).set k ⟨⟨(z : Int), z1, z2, 0, [], []⟩, none, 0, none, 0⟩)[k]? = some ⟨⟨(z : Int), z1, z2, 0, [], []⟩, none, 0, none, 0⟩ := List.getElem?_set_self (by omega)
      have s4 := s3.1.stored k _ ⟨⟨(z : Int), z1, z2, z3, [], []⟩, none, 0, none, 0⟩ hx3 3 (by decide) (.int .i64 z3) rfl
      rw [List.set_set] at s4
      have hx4 : ((markFs k ++ freshF p (n - k)).set k ⟨⟨(z : Int), z1, z2, z3, [], []⟩, none, 0, none, 0⟩)[k]? = some ⟨⟨(z : Int), z1, z2, z3, [], []⟩, none, 0, none, 0⟩ := List.getElem?_set_self (by omega)
      obtain ⟨W, HW⟩ : ∃ U, Hid ((((wr.setCell ⟨b, k * 6, none⟩ (.int .i64 (z : Int))).setCell ⟨b, k * 6 + 1, none⟩ (.int .i64 z1)).setCell ⟨b, k * 6 + 2, none⟩ (.int .i64 z2)).setCell ⟨b, k * 6 + 3, none⟩ (.int .i64 z3) = U) := ⟨_, rfl⟩
      have HT : Hid (OwnRow FK W base (some ⟨b, 0, none⟩) cap (markFs (k + 1) ++ freshF p (n - (k + 1)))) := by
        rw [← HW.out]
        have := s4.1
        rw [markFs_step p k n hlt _ (by rw [← HZ1, ← HZ2, ← HZ3]; unfold markF1; rw [HZ.out])] at this
        exact this
      have HGT : Hid (w.grownBy W (some b)) := by rw [← HW.out]; exact World.grownBy.trans HG.out (World.grownBy.trans s1.2 (World.grownBy.trans s2.2 (World.grownBy.trans s3.2 s4.2)))
      have HC4 : Hid (W.cell? ⟨b, k * 6 + 4, none⟩ = some (.slice none 0 0) ∧ W.cell? ⟨b, k * 6 + 5, none⟩ = some (.slice none 0 0)) := by
        have c := own_cells6 s4.1 k _ hx4
        rw [← HW.out]
        exact ⟨c.2.2.2.2.1, c.2.2.2.2.2⟩
      have HZN : Hid (z4 = ((1 + 4 * (k + 1) : Nat) : Int)) := by show _ = _; rw [← HZ4]; have := HZ.out; omega
      clear s1 s2 s3 s4 hx0 hx1 hx2 hx3 hx4 hl HZ1 HZ2 HZ3 HZ4 d4 d5
      go_upto_region 12 with fail
      rw [HW.out]
      obtain ⟨c4, c5⟩ := HC4.out
      clear d0 d1 d2 d3 e0 e1 e2 e3
      go_wp2_with fail
      refine (V1.out _ _).mono ?_
      rintro e w2 ⟨rfl, rfl⟩
      go_wp2_with fail
      refine (V2.out _ _).mono ?_
      rintro e w2 ⟨rfl, rfl⟩
      go_wp2
      go_roundw
      case rel => exact ⟨k + 1, by omega, by rw [HZN.out], by go_num, HT, HGT⟩
      case measure => simp [intOf]; omega
    · have hkn : k = n := by omega
      subst hkn
      have ho := HO1.out
      rw [Nat.sub_self, show freshF p 0 = [] from rfl, List.append_nil] at ho
      have HO' := Lib.hid ho
      clear ho
      go_wp2
      go_ret
      exact ⟨rfl, HO'.out, HG.out⟩

set_option maxHeartbeats 4000000 in
set_option maxRecDepth 100000 in
theorem heldFeeds_new (base b cap n : Nat) (w : World) (hO : OwnRow FK w base (some ⟨b, 0, none⟩) cap (markFs n)) (hn : n ≤ 6) :
    Calls Try.prog 40 #[.slice (some ⟨b, 0, none⟩) n cap, .int .i64 1] w fun e w' => e = .returned (.int .i64 ((1 + 4 * n : Nat) : Int)) ∧ w' = w := by
  have HO := Lib.hid hO
  clear hO
  have V1 := Lib.hid (fun (z : Int) (U : World) => void_heldStringS none 0 z U)
  have V2 := Lib.hid (fun (z : Int) (U : World) => void_heldBoolS none 0 z U)
  go_enter Try.func40, Try.ntmps40
  go_wp2
  go_loopw [1, 5] (fun x i w' => ∃ k : Nat, k ≤ n ∧ x = .int .i64 ((1 + 4 * k : Nat) : Int) ∧ i = .int .i64 (k : Int) ∧ w' = w) (fun _ i _ => n - (intOf i).toNat)
  case atStart => exact ⟨0, Nat.zero_le _, rfl, rfl, (by first | trivial | rfl)⟩
  case round =>
    obtain ⟨k, hk, rfl, rfl, rfl⟩ := hrel
    by_cases hlt : k < n
    · have hki : (k : Int) < (n : Int) := by omega
      obtain ⟨⟨d0, _⟩, ⟨d1, _⟩, ⟨d2, _⟩, ⟨d3, _⟩, d4, d5⟩ := own_cells6 HO.out k _ (markFs_get n k hlt)
      unfold markF1 at d0 d1 d2 d3 d4 d5
      dsimp only at d0 d1 d2 d3 d4 d5
      obtain ⟨z, HZ⟩ : ∃ x, Hid (1 + 4 * k = x) := ⟨_, rfl⟩
      have hzb : z ≤ 25 := by have := HZ.out; omega
      rw [HZ.out] at d0 d1 d2 d3 ⊢
      have hw1 : IntKind.i64.wrap ((z : Int) + 1) = ((z + 1 : Nat) : Int) := by rw [show (z : Int) + 1 = ((z + 1 : Nat) : Int) by omega]; exact IntWalk.i64_in _ (by omega)
      have hw2 : IntKind.i64.wrap (((z + 1 : Nat) : Int) + 1) = ((z + 2 : Nat) : Int) := by rw [show ((z + 1 : Nat) : Int) + 1 = ((z + 2 : Nat) : Int) by omega]; exact IntWalk.i64_in _ (by omega)
      have hw3 : IntKind.i64.wrap (((z + 2 : Nat) : Int) + 1) = ((z + 3 : Nat) : Int) := by rw [show ((z + 2 : Nat) : Int) + 1 = ((z + 3 : Nat) : Int) by omega]; exact IntWalk.i64_in _ (by omega)
      have hw4 : IntKind.i64.wrap (((z + 3 : Nat) : Int) + 1) = ((z + 4 : Nat) : Int) := by rw [show ((z + 3 : Nat) : Int) + 1 = ((z + 4 : Nat) : Int) by omega]; exact IntWalk.i64_in _ (by omega)
      have hp0 : (0 : Int) ≤ ((z + 4 : Nat) : Int) := by omega
      obtain ⟨z0, HZ0⟩ : ∃ x : Int, (z : Int) = x := ⟨_, rfl⟩
      obtain ⟨z1, HZ1⟩ : ∃ x : Int, ((z + 1 : Nat) : Int) = x := ⟨_, rfl⟩
      obtain ⟨z2, HZ2⟩ : ∃ x : Int, ((z + 2 : Nat) : Int) = x := ⟨_, rfl⟩
      obtain ⟨z3, HZ3⟩ : ∃ x : Int, ((z + 3 : Nat) : Int) = x := ⟨_, rfl⟩
      obtain ⟨z4, HZ4⟩ : ∃ x : Int, ((z + 4 : Nat) : Int) = x := ⟨_, rfl⟩
      rw [HZ0] at hw1 d0 ⊢
      rw [HZ1] at hw1 hw2 d1
      rw [HZ2] at hw2 hw3 d2
      rw [HZ3] at hw3 hw4 d3
      rw [HZ4] at hw4 hp0
      have HZN : Hid (z4 = ((1 + 4 * (k + 1) : Nat) : Int)) := by show _ = _; rw [← HZ4]; have := HZ.out; omega
      have hpn : ¬ z4 < 0 := by omega
      have n0 : (z0 != z0) = false := by simp
      have n1 : (z1 != z1) = false := by simp
      have n2 : (z2 != z2) = false := by simp
      have n3 : (z3 != z3) = false := by simp
      clear HZ0 HZ1 HZ2 HZ3 HZ4 hzb
      go_wp2_with fail
      refine (V1.out _ _).mono ?_
      rintro e w2 ⟨rfl, rfl⟩
      go_wp2_with fail
      refine (V2.out _ _).mono ?_
      rintro e w2 ⟨rfl, rfl⟩
      go_wp2
      go_roundw
      case rel => exact ⟨k + 1, by omega, by rw [HZN.out], by go_num, by first | trivial | rfl⟩
      case measure => simp [intOf]; omega
    · have hkn : k = n := by omega
      subst hkn
      go_wp2
      go_ret
      exact ⟨rfl, rfl⟩

set_option maxHeartbeats 2000000 in
set_option maxRecDepth 100000 in
theorem markAsks_new (base b cap n : Nat) (z : Int) (w : World) (hO : OwnRow HK2 w base (some ⟨b, 0, none⟩) cap (freshA n)) (hn : n ≤ 6) (hz : 0 ≤ z) :
    Calls Try.prog 38 #[.slice (some ⟨b, 0, none⟩) n cap, .int .i64 z] w fun e w' => e = .returned (.int .i64 z) ∧ w' = w := by
  have HO := Lib.hid hO
  clear hO
  have V1 := Lib.hid (fun (z : Int) (U : World) => void_markAskS none 0 z U)
  have hzn : ¬ z < 0 := by omega
  go_enter Try.func38, Try.ntmps38
  go_wp2
  go_loopw [1, 5] (fun x i w' => ∃ k : Nat, k ≤ n ∧ x = .int .i64 z ∧ i = .int .i64 (k : Int) ∧ w' = w) (fun _ i _ => n - (intOf i).toNat)
  case atStart => exact ⟨0, Nat.zero_le _, rfl, rfl, (by first | trivial | rfl)⟩
  case round =>
    obtain ⟨k, hk, rfl, rfl, rfl⟩ := hrel
    by_cases hlt : k < n
    · have hki : (k : Int) < (n : Int) := by omega
      have hx : (freshA n)[k]? = some ⟨none, 0, []⟩ := by unfold freshA; rw [List.getElem?_replicate, if_pos hlt]
      have d0 := (HO.out.cellF k _ hx 0 _ rfl).1
      have e0 : k * HK2.k + 0 = k := by show k * 1 + 0 = _; omega
      rw [e0] at d0
      dsimp only [List.length_nil] at d0
      clear hx e0
      go_wp2_with fail
      refine (V1.out _ _).mono ?_
      rintro e w2 ⟨rfl, rfl⟩
      go_wp2
      go_roundw
      case rel => exact ⟨k + 1, by omega, rfl, by go_num, by first | trivial | rfl⟩
      case measure => simp [intOf]; omega
    · have hkn : k = n := by omega
      subst hkn
      go_wp2
      go_ret
      exact ⟨rfl, rfl⟩

set_option maxHeartbeats 2000000 in
set_option maxRecDepth 100000 in
theorem heldAsks_new (base b cap n : Nat) (z : Int) (w : World) (hO : OwnRow HK2 w base (some ⟨b, 0, none⟩) cap (freshA n)) (hn : n ≤ 6) (hz : 0 ≤ z) :
    Calls Try.prog 42 #[.slice (some ⟨b, 0, none⟩) n cap, .int .i64 z] w fun e w' => e = .returned (.int .i64 z) ∧ w' = w := by
  have HO := Lib.hid hO
  clear hO
  have V1 := Lib.hid (fun (z : Int) (U : World) => void_heldAskS none 0 z U)
  have hzn : ¬ z < 0 := by omega
  go_enter Try.func42, Try.ntmps42
  go_wp2
  go_loopw [1, 5] (fun x i w' => ∃ k : Nat, k ≤ n ∧ x = .int .i64 z ∧ i = .int .i64 (k : Int) ∧ w' = w) (fun _ i _ => n - (intOf i).toNat)
  case atStart => exact ⟨0, Nat.zero_le _, rfl, rfl, (by first | trivial | rfl)⟩
  case round =>
    obtain ⟨k, hk, rfl, rfl, rfl⟩ := hrel
    by_cases hlt : k < n
    · have hki : (k : Int) < (n : Int) := by omega
      have hx : (freshA n)[k]? = some ⟨none, 0, []⟩ := by unfold freshA; rw [List.getElem?_replicate, if_pos hlt]
      have d0 := (HO.out.cellF k _ hx 0 _ rfl).1
      have e0 : k * HK2.k + 0 = k := by show k * 1 + 0 = _; omega
      rw [e0] at d0
      dsimp only [List.length_nil] at d0
      clear hx e0
      go_wp2_with fail
      refine (V1.out _ _).mono ?_
      rintro e w2 ⟨rfl, rfl⟩
      go_wp2
      go_roundw
      case rel => exact ⟨k + 1, by omega, rfl, by go_num, by first | trivial | rfl⟩
      case measure => simp [intOf]; omega
    · have hkn : k = n := by omega
      subst hkn
      go_wp2
      go_ret
      exact ⟨rfl, rfl⟩

set_option maxHeartbeats 4000000 in
set_option maxRecDepth 100000 in
theorem markNew_any (sec bad : Int) (n b c1 g3 base : Nat) (w : World) (h : NewRun w base sec n (some ⟨b, 0, none⟩) c1 g3) (hn : n ≤ 6) (hb : base ≤ w.heap.size) :
    Calls Try.prog 12 #[.agg #[.int .i64 sec, .int .i64 bad, .slice (some ⟨b, 0, none⟩) n c1, .slice none 0 0, .slice (some ⟨g3, 0, none⟩) n n, .slice none 0 0], .int .i64 1] w fun e w' => e = .returned (.int .i64 ((1 + 4 * n : Nat) : Int)) ∧ OwnRow FK w' base (some ⟨b, 0, none⟩) c1 (markFs n) ∧ OwnRow HK2 w' base (some ⟨g3, 0, none⟩) n (freshA n) ∧ Below base w w' ∧ (∀ x, x < w.heap.size → x ≠ b → w'.heap[x]? = w.heap[x]?) := by
  obtain ⟨V, HV⟩ : ∃ U, Hid (w.alloc (.cells #[.int .i64 sec, .int .i64 bad, .slice (some ⟨b, 0, none⟩) n c1, .slice none 0 0, .slice (some ⟨g3, 0, none⟩) n n, .slice none 0 0] 30) = U) := ⟨_, rfl⟩
  have K1 : Hid (Blk V w.heap.size 30 #[.int .i64 sec, .int .i64 bad, .slice (some ⟨b, 0, none⟩) n c1, .slice none 0 0, .slice (some ⟨g3, 0, none⟩) n n, .slice none 0 0]) := by rw [← HV.out]; exact Blk.new _ _ _
  have HB : Hid (Below w.heap.size w V) := by rw [← HV.out]; exact (Below.refl _ w).alloc (Nat.le_refl _) _
  have HO1 : Hid (OwnRow FK V base (some ⟨b, 0, none⟩) c1 (freshF (publicOr sec) n)) := by rw [← HV.out]; exact h.o1.alloc _
  have HO3 : Hid (OwnRow HK2 V base (some ⟨g3, 0, none⟩) n (freshA n)) := by rw [← HV.out]; exact h.o3.alloc _
  have hbb := h.o1.lies b rfl
  have hb3 := h.o3.lies g3 rfl
  have hne := h.ne b rfl
  have hsz : w.heap.size ≤ V.heap.size := HB.out.size
  have hlt := K1.out.lt
  clear h
  obtain ⟨a0, a1, a2, a3, a4, a5⟩ := run_cells K1.out
  have C1 := Lib.hid (markFeeds_new (publicOr sec) base b c1 n V HO1.out hn)
  go_enter Try.func12, Try.ntmps12
  go_upto_region 1 with fail
  rw [HV.out]
  go_wp2_with fail
  refine C1.out.mono ?_
  rintro e w2 ⟨rfl, ho2, hg2⟩
  have HO2 := Lib.hid ho2
  have HG2 := Lib.hid hg2
  have K2 := Lib.hid (K1.out.grown hg2 (by intro e; injection e with e; omega))
  have HA2 : Hid (OwnRow HK2 w2 base (some ⟨g3, 0, none⟩) n (freshA n)) := HO3.out.block (fun g e => hg2.block g (HO3.out.lies g e).2 (by injection e with e; injection e with e; intro x; injection x with x; omega))
  clear ho2 hg2 a0 a1 a2 a3 a4 a5
  obtain ⟨a0, a1, a2, a3, a4, a5⟩ := run_cells K2.out
  obtain ⟨z, HZ⟩ : ∃ x : Int, Hid (((1 + 4 * n : Nat) : Int) = x) := ⟨_, rfl⟩
  have hz : 0 ≤ z := by have := HZ.out; omega
  rw [HZ.out]
  go_wp2_with fail
  refine (void_markLinkS none 0 z w2).mono ?_
  rintro e w3 ⟨rfl, rfl⟩
  go_wp2_with fail
  refine (markAsks_new base g3 n n z _ HA2.out hn hz).mono ?_
  rintro e w4 ⟨rfl, rfl⟩
  go_wp2_with fail
  refine (void_markPieceS none 0 z _).mono ?_
  rintro e w5 ⟨rfl, rfl⟩
  have HBel : Hid (Below base w w5) := (HB.out.mono hb).grown HG2.out (by omega) (fun k hk => by injection hk with hk; omega)
  have HHE : Hid (∀ x, x < w.heap.size → x ≠ b → w5.heap[x]? = w.heap[x]?) := fun x hx hxb => (HG2.out.block x (by omega) (by intro e; injection e with e; exact hxb e)).trans (HB.out.block x hx)
  go_wp2
  go_ret
  exact ⟨by rw [HZ.out]; rfl, HO2.out, HA2.out, HBel.out, HHE.out⟩

set_option maxHeartbeats 4000000 in
set_option maxRecDepth 100000 in
theorem heldNew_any (sec bad : Int) (n b c1 g3 base : Nat) (w : World) (h1 : OwnRow FK w base (some ⟨b, 0, none⟩) c1 (markFs n)) (h3 : OwnRow HK2 w base (some ⟨g3, 0, none⟩) n (freshA n)) (hn : n ≤ 6) :
    Calls Try.prog 13 #[.agg #[.int .i64 sec, .int .i64 bad, .slice (some ⟨b, 0, none⟩) n c1, .slice none 0 0, .slice (some ⟨g3, 0, none⟩) n n, .slice none 0 0], .int .i64 1] w fun e w' => e = .returned (.int .i64 ((1 + 4 * n : Nat) : Int)) ∧ Below w.heap.size w w' := by
  obtain ⟨V, HV⟩ : ∃ U, Hid (w.alloc (.cells #[.int .i64 sec, .int .i64 bad, .slice (some ⟨b, 0, none⟩) n c1, .slice none 0 0, .slice (some ⟨g3, 0, none⟩) n n, .slice none 0 0] 30) = U) := ⟨_, rfl⟩
  have K1 : Hid (Blk V w.heap.size 30 #[.int .i64 sec, .int .i64 bad, .slice (some ⟨b, 0, none⟩) n c1, .slice none 0 0, .slice (some ⟨g3, 0, none⟩) n n, .slice none 0 0]) := by rw [← HV.out]; exact Blk.new _ _ _
  have HB : Hid (Below w.heap.size w V) := by rw [← HV.out]; exact (Below.refl _ w).alloc (Nat.le_refl _) _
  have HO1 : Hid (OwnRow FK V base (some ⟨b, 0, none⟩) c1 (markFs n)) := by rw [← HV.out]; exact h1.alloc _
  have HO3 : Hid (OwnRow HK2 V base (some ⟨g3, 0, none⟩) n (freshA n)) := by rw [← HV.out]; exact h3.alloc _
  clear h1 h3
  obtain ⟨a0, a1, a2, a3, a4, a5⟩ := run_cells K1.out
  have C1 := Lib.hid (heldFeeds_new base b c1 n V HO1.out hn)
  obtain ⟨z, HZ⟩ : ∃ x : Int, Hid (((1 + 4 * n : Nat) : Int) = x) := ⟨_, rfl⟩
  have hz : 0 ≤ z := by have := HZ.out; omega
  have hzn : ¬ z < 0 := by omega
  rw [HZ.out] at C1 ⊢
  go_enter Try.func13, Try.ntmps13
  go_upto_region 1 with fail
  rw [HV.out]
  go_wp2_with fail
  refine C1.out.mono ?_
  rintro e w2 ⟨rfl, hw2⟩
  rw [hw2]
  clear hw2
  go_wp2_with fail
  refine (void_heldLinkS none 0 z V).mono ?_
  rintro e w3 ⟨rfl, hw3⟩
  rw [hw3]
  clear hw3
  go_wp2_with fail
  refine (heldAsks_new base g3 n n z V HO3.out hn hz).mono ?_
  rintro e w4 ⟨rfl, hw4⟩
  rw [hw4]
  clear hw4
  go_wp2_with fail
  refine (void_heldPieceS none 0 z V).mono ?_
  rintro e w5 ⟨rfl, hw5⟩
  rw [hw5]
  clear hw5
  go_wp2
  go_ret
  exact ⟨rfl, HB.out⟩

set_option maxHeartbeats 2000000 in
set_option maxRecDepth 100000 in
theorem markZero_any (w : World) : Calls Try.prog 12 #[.agg #[.int .i64 0, .int .i64 0, .slice none 0 0, .slice none 0 0, .slice none 0 0, .slice none 0 0], .int .i64 1] w fun e w' => e = .returned (.int .i64 1) ∧ Below w.heap.size w w' := by
  obtain ⟨V, HV⟩ : ∃ U, Hid (w.alloc (.cells #[.int .i64 0, .int .i64 0, .slice none 0 0, .slice none 0 0, .slice none 0 0, .slice none 0 0] 30) = U) := ⟨_, rfl⟩
  have K1 : Hid (Blk V w.heap.size 30 #[.int .i64 0, .int .i64 0, .slice none 0 0, .slice none 0 0, .slice none 0 0, .slice none 0 0]) := by rw [← HV.out]; exact Blk.new _ _ _
  have HB : Hid (Below w.heap.size w V) := by rw [← HV.out]; exact (Below.refl _ w).alloc (Nat.le_refl _) _
  obtain ⟨a0, a1, a2, a3, a4, a5⟩ := run_cells K1.out
  go_enter Try.func12, Try.ntmps12
  go_upto_region 1 with fail
  rw [HV.out]
  go_wp2_with fail
  refine (void_markFeedS none 0 1 V).mono ?_
  rintro e w2 ⟨rfl, hw2⟩
  rw [hw2]
  clear hw2
  go_wp2_with fail
  refine (void_markLinkS none 0 1 V).mono ?_
  rintro e w2 ⟨rfl, hw2⟩
  rw [hw2]
  clear hw2
  go_wp2_with fail
  refine (void_markAskSS none 0 1 V).mono ?_
  rintro e w2 ⟨rfl, hw2⟩
  rw [hw2]
  clear hw2
  go_wp2_with fail
  refine (void_markPieceS none 0 1 V).mono ?_
  rintro e w2 ⟨rfl, hw2⟩
  rw [hw2]
  clear hw2
  go_wp2
  go_ret
  exact ⟨rfl, HB.out⟩

set_option maxHeartbeats 2000000 in
set_option maxRecDepth 100000 in
theorem heldZero_any (w : World) : Calls Try.prog 13 #[.agg #[.int .i64 0, .int .i64 0, .slice none 0 0, .slice none 0 0, .slice none 0 0, .slice none 0 0], .int .i64 1] w fun e w' => e = .returned (.int .i64 1) ∧ Below w.heap.size w w' := by
  obtain ⟨V, HV⟩ : ∃ U, Hid (w.alloc (.cells #[.int .i64 0, .int .i64 0, .slice none 0 0, .slice none 0 0, .slice none 0 0, .slice none 0 0] 30) = U) := ⟨_, rfl⟩
  have K1 : Hid (Blk V w.heap.size 30 #[.int .i64 0, .int .i64 0, .slice none 0 0, .slice none 0 0, .slice none 0 0, .slice none 0 0]) := by rw [← HV.out]; exact Blk.new _ _ _
  have HB : Hid (Below w.heap.size w V) := by rw [← HV.out]; exact (Below.refl _ w).alloc (Nat.le_refl _) _
  obtain ⟨a0, a1, a2, a3, a4, a5⟩ := run_cells K1.out
  go_enter Try.func13, Try.ntmps13
  go_upto_region 1 with fail
  rw [HV.out]
  go_wp2_with fail
  refine (void_heldFeedS none 0 1 V).mono ?_
  rintro e w2 ⟨rfl, hw2⟩
  rw [hw2]
  clear hw2
  go_wp2_with fail
  refine (void_heldLinkS none 0 1 V).mono ?_
  rintro e w2 ⟨rfl, hw2⟩
  rw [hw2]
  clear hw2
  go_wp2_with fail
  refine (void_heldAskSS none 0 1 V).mono ?_
  rintro e w2 ⟨rfl, hw2⟩
  rw [hw2]
  clear hw2
  go_wp2_with fail
  refine (void_heldPieceS none 0 1 V).mono ?_
  rintro e w2 ⟨rfl, hw2⟩
  rw [hw2]
  clear hw2
  go_wp2
  go_ret
  exact ⟨rfl, HB.out⟩
end Go.Proofs.Ytkmebilhbjcfpaa
