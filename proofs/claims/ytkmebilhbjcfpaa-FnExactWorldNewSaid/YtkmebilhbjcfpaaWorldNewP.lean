/- Contract of WorldNew: a run of peers with empty feeds, in memory of the call's own. No conditions. -/
import Derived.Test.YtkmebilhbjcfpaaRunP
import Derived.Test.YtkmebilhbjcfpaaBaseH
import Derived.Test.YtkmebilhbjcfpaaExactRowN
import Derived.Test.YtkmebilhbjcfpaaSameRun
namespace Go.Proofs.Ytkmebilhbjcfpaa
open Go.RowKit
set_option linter.unusedVariables false

def freshF (p : Int) (n : Nat) : List FH := List.replicate n ⟨newF p, none, 0, none, 0⟩
def freshA (n : Nat) : List AH := List.replicate n ⟨none, 0, []⟩
theorem freshF_next (p : Int) (k : Nat) : freshF p k ++ [⟨newF p, none, 0, none, 0⟩] = freshF p (k + 1) := by unfold freshF; rw [List.replicate_succ']
theorem freshF_length (p : Int) (n : Nat) : (freshF p n).length = n := List.length_replicate
theorem freshA_length (n : Nat) : (freshA n).length = n := List.length_replicate
/-- A new run as it lies in memory. -/
def newR (sec : Int) (n : Nat) (A1 : Option Addr) (c1 g3 : Nat) : WR := ⟨A1, c1, freshF (publicOr sec) n, none, 0, some ⟨g3, 0, none⟩, n, freshA n, none, 0, []⟩
theorem newR_data (sec bad : Int) (n : Nat) (A1 : Option Addr) (c1 g3 : Nat) : dataW sec bad (newR sec n A1 c1 g3) [] = newW sec (n : Int) bad := by
  unfold dataW newR newW hfs has freshF freshA
  simp only [List.map_replicate, Int.toNat_natCast]
  rfl
/-- The rows of a new run are the call's own. -/
structure NewRun (w' : World) (base : Nat) (sec : Int) (n : Nat) (A1 : Option Addr) (c1 g3 : Nat) : Prop where
  o1 : OwnRow FK w' base A1 c1 (freshF (publicOr sec) n)
  o3 : OwnRow HK2 w' base (some ⟨g3, 0, none⟩) n (freshA n)
  ne : ∀ g, A1 = some ⟨g, 0, none⟩ → g ≠ g3
theorem NewRun.at_ {w' : World} {base : Nat} {sec : Int} {n : Nat} {A1 : Option Addr} {c1 g3 : Nat} (h : NewRun w' base sec n A1 c1 g3) : RunAt w' w'.heap.size (newR sec n A1 c1 g3) [] := by
  have l1 := h.o1.le
  have l3 := h.o3.le
  rw [freshF_length] at l1
  rw [freshA_length] at l3
  refine ⟨h.o1.at_, RowAt.nil, h.o3.at_, RowAt.nil, fun x hx => ?_, fun x hx => ?_, fun x hx => absurd hx (by intro e; cases e), ?_, by simp, ?_, Nat.zero_le _, h.o1.nil_cap, fun _ => rfl, fun e => (by cases e), fun _ => rfl, ?_, Nat.zero_le _, ?_, Nat.zero_le _, l1.2, Nat.zero_le _, l3.2, Nat.zero_le _⟩
  · have e := List.eq_of_mem_replicate (show x ∈ List.replicate n _ from hx)
    subst e
    exact ⟨⟨StrsAt.nil, BoolsAt.nil, fun k => Nat.zero_le _, Nat.zero_le _, Nat.zero_le _⟩, fun _ => rfl, fun _ => rfl, ⟨Nat.zero_le _, Nat.zero_le _⟩, ⟨Nat.zero_le _, Nat.zero_le _⟩⟩
  · have e := List.eq_of_mem_replicate (show x ∈ List.replicate n _ from hx)
    subst e
    exact ⟨RowAt.nil, Nat.zero_le _, Nat.zero_le _, fun _ => rfl⟩
  · show (freshF _ n).length ≤ _; rw [freshF_length]; omega
  · show (freshA n).length ≤ _; rw [freshA_length]; exact l3.2
  · show (freshF _ n).length ≤ _; rw [freshF_length]; exact l1.1
  · show (freshA n).length ≤ _; rw [freshA_length]; exact Nat.le_refl _

set_option maxHeartbeats 2000000 in
set_option maxRecDepth 100000 in
theorem worldNew_no (sec n bad : Int) (w : World) (h : newOk sec n bad = false) :
    Calls Try.prog 6 #[.int .i64 sec, .int .i64 n, .int .i64 bad] w fun e w' => e = .returned (.tuple #[.agg #[.int .i64 0, .int .i64 0, .slice none 0 0, .slice none 0 0, .slice none 0 0, .slice none 0 0], .bool false]) ∧ Below w.heap.size w w' := by
  have HN := Lib.hid h
  clear h
  go_enter Try.func6, Try.ntmps6
  go_wp2_with fail
  refine (nums_any sec n bad _).mono ?_
  rintro e w' ⟨rfl, rfl⟩
  rw [HN.out]
  go_wp2
  have hblk := Blk.new w 30 #[.int .i64 0, .int .i64 0, .slice none 0 0, .slice none 0 0, .slice none 0 0, .slice none 0 0]
  have hbel : Below w.heap.size w (w.alloc (.cells #[.int .i64 0, .int .i64 0, .slice none 0 0, .slice none 0 0, .slice none 0 0, .slice none 0 0] 30)) := (Below.refl _ w).alloc (Nat.le_refl _) _
  obtain ⟨W, HW⟩ : ∃ W, Hid (w.alloc (.cells #[.int .i64 0, .int .i64 0, .slice none 0 0, .slice none 0 0, .slice none 0 0, .slice none 0 0] 30) = W) := ⟨_, rfl⟩
  rw [HW.out] at hblk hbel ⊢
  obtain ⟨c0, c1, c2, c3, c4, c5⟩ := run_cells hblk
  exact bodyPost_ret (v := .tuple #[.agg #[.int .i64 0, .int .i64 0, .slice none 0 0, .slice none 0 0, .slice none 0 0, .slice none 0 0], .bool false]) (by simp [results, Try.results6, go_sem, c0, c1, c2, c3, c4, c5]) rfl ⟨rfl, hbel⟩

set_option maxHeartbeats 8000000 in
set_option maxRecDepth 100000 in
theorem worldNew_yes (sec bad : Int) (n : Nat) (w : World) (h : newOk sec (n : Int) bad = true) :
    Calls Try.prog 6 #[.int .i64 sec, .int .i64 (n : Int), .int .i64 bad] w fun e w' => ∃ A1 c1 g3, e = .returned (.tuple #[.agg #[.int .i64 sec, .int .i64 bad, .slice A1 n c1, .slice none 0 0, .slice (some ⟨g3, 0, none⟩) n n, .slice none 0 0], .bool true]) ∧ NewRun w' w.heap.size sec n A1 c1 g3 ∧ Below w.heap.size w w' := by
  have hno := (newOk_iff _ _ _).1 h
  have hn6 : n ≤ 6 := by omega
  have hpu := publicOr_bd hno.1
  have HN := Lib.hid h
  obtain ⟨pu, HPU⟩ : ∃ x, Hid (publicOr sec = x) := ⟨_, rfl⟩
  have CP := Lib.hid (fun U => public_any sec U)
  rw [HPU.out] at hpu CP
  obtain ⟨hp0, hp1⟩ := hpu
  have CF := Lib.hid (fun U => feedNew_yes pu U hp0 hp1)
  obtain ⟨i0, hi0, hz0, hz1, hz2⟩ := info_parts asks_info
  have hmk := fun W => run_make_kind (P := Try.prog) HK2 27 ⟨none, 0, []⟩ _ Try.underlying27 hi0 hz0 hz1 hz2 rfl .i64 .i64 n (by show 24 * n ≤ _; omega) (by omega) W
  clear hi0 hz0 hz1 hz2
  obtain ⟨i1, zz, hi0, hz0, hz1, hz2, hz3⟩ := feed_app
  have HI0 := Lib.hid (And.intro hi0 (And.intro hz0 (And.intro hz1 (And.intro hz2 hz3))))
  clear hi0 hz0 hz1 hz2 hz3 h hno
  obtain ⟨W1, HW1⟩ : ∃ U, Hid (w.alloc (.cells #[.int .i64 0, .int .i64 0, .slice none 0 0, .slice none 0 0, .slice none 0 0, .slice none 0 0] 30) = U) := ⟨_, rfl⟩
  have K0 : Hid (Blk W1 w.heap.size 30 #[.int .i64 0, .int .i64 0, .slice none 0 0, .slice none 0 0, .slice none 0 0, .slice none 0 0]) := by rw [← HW1.out]; exact Blk.new w _ _
  have HB1 : Hid (Below w.heap.size w W1) := by rw [← HW1.out]; exact (Below.refl _ w).alloc (Nat.le_refl _) _
  have HS1 : Hid (W1.heap.size = w.heap.size + 1) := by show _ = _; rw [← HW1.out, World.size_alloc]
  obtain ⟨W2, HW2⟩ : ∃ U, Hid (W1.alloc (.cells (HK2.cells (List.replicate n ⟨none, 0, []⟩)).toArray HK2.e) = U) := ⟨_, rfl⟩
  have HO2 : Hid (OwnRow HK2 W2 W1.heap.size (some ⟨W1.heap.size, 0, none⟩) n (freshA n)) := by rw [← HW2.out]; exact OwnRow.made HK2 W1 n ⟨none, 0, []⟩ (by unfold maxLen; omega)
  have HS2 : Hid (W2.heap.size = w.heap.size + 2) := by show _ = _; rw [← HW2.out, World.size_alloc, HS1.out]
  have K02 : Hid (Blk W2 w.heap.size 30 #[.int .i64 0, .int .i64 0, .slice none 0 0, .slice none 0 0, .slice none 0 0, .slice none 0 0]) := by rw [← HW2.out]; exact K0.out.alloc _
  have HB2 : Hid (Below w.heap.size w W2) := by rw [← HW2.out]; exact HB1.out.alloc (by have := HS1.out; omega) _
  obtain ⟨W3, HW3⟩ : ∃ U, Hid (W2.alloc (.cells #[.int .i64 sec, .int .i64 bad, .slice none 0 0, .slice none 0 0, .slice (some ⟨W1.heap.size, 0, none⟩) n n, .slice none 0 0] 30) = U) := ⟨_, rfl⟩
  have K3 : Hid (Blk W3 W2.heap.size 30 #[.int .i64 sec, .int .i64 bad, .slice none 0 0, .slice none 0 0, .slice (some ⟨W1.heap.size, 0, none⟩) n n, .slice none 0 0]) := by rw [← HW3.out]; exact Blk.new W2 _ _
  have K03 : Hid (Blk W3 w.heap.size 30 #[.int .i64 0, .int .i64 0, .slice none 0 0, .slice none 0 0, .slice none 0 0, .slice none 0 0]) := by rw [← HW3.out]; exact K02.out.alloc _
  have HO3 : Hid (OwnRow HK2 W3 w.heap.size (some ⟨W1.heap.size, 0, none⟩) n (freshA n)) := by rw [← HW3.out]; exact (HO2.out.alloc _).base_le (by have := HS1.out; omega)
  have HB3 : Hid (Below w.heap.size w W3) := by rw [← HW3.out]; exact HB2.out.alloc (by have := HS2.out; omega) _
  have HS3 : Hid (W3.heap.size = w.heap.size + 3) := by show _ = _; rw [← HW3.out, World.size_alloc, HS2.out]
  clear K0 HB1 HO2 K02 HB2
  go_enter Try.func6, Try.ntmps6
  go_upto_region 1 with fail
  rw [HW1.out]
  go_wp2_with fail
  refine (nums_any sec (n : Int) bad _).mono ?_
  rintro e w' ⟨rfl, hw'⟩
  rw [hw', HN.out]
  clear hw'
  go_upto_region 4 with fail
  rw [HW2.out, HW3.out]
  clear hmk
  have hs1 := HS1.out
  have hs2 := HS2.out
  have hs3 := HS3.out
  have e2 : W2.heap.size = W1.heap.size + 1 := by omega
  rw [e2] at K3 hs2
  clear e2
  obtain ⟨gw, HGW⟩ : ∃ x, W1.heap.size + 1 = x := ⟨_, rfl⟩
  obtain ⟨g3, HG3⟩ : ∃ x, W1.heap.size = x := ⟨_, rfl⟩
  rw [HGW] at K3 hs2 ⊢
  rw [HG3] at K3 HO3 hs1 ⊢
  obtain ⟨g0, HG0⟩ : ∃ x, Hid (w.heap.size = x) := ⟨_, rfl⟩
  rw [HG0.out] at K03 HO3 HB3 hs1 hs2 hs3 ⊢
  have q10 : g0 < gw := by omega
  have q11 : gw < g0 + 3 := by omega
  have q12 : g0 < g3 := by omega
  have q13 : g3 < gw := by omega
  have HZ3 : Hid (g0 + 3 ≤ W3.heap.size) := by show _ ≤ _; omega
  clear hs1 hs2 hs3
  go_wp2
  go_loopw [23] (fun i wr => ∃ (k : Nat) (A1 : Option Addr) (c1 : Nat), k ≤ n ∧ i = .int .i64 (k : Int) ∧ Hid (Below g0 w wr) ∧ Hid (g0 + 3 ≤ wr.heap.size) ∧ Hid (Blk wr g0 30 #[.int .i64 0, .int .i64 0, .slice none 0 0, .slice none 0 0, .slice none 0 0, .slice none 0 0]) ∧ Hid (Blk wr gw 30 #[.int .i64 sec, .int .i64 bad, .slice A1 k c1, .slice none 0 0, .slice (some ⟨g3, 0, none⟩) n n, .slice none 0 0]) ∧ Hid (OwnRow HK2 wr g0 (some ⟨g3, 0, none⟩) n (freshA n)) ∧ Hid (OwnRow FK wr (g0 + 3) A1 c1 (freshF pu k))) (fun i _ => n - (intOf i).toNat)
  case atStart => exact ⟨0, none, 0, Nat.zero_le _, rfl, HB3, HZ3, K03, K3, HO3, OwnRow.zero FK W3 _⟩
  case round =>
    obtain ⟨k, A1, c1, hk, rfl, HBr, HZr, KZ, KW, HOA, HOF⟩ := hrel
    have hzr := HZr.out
    by_cases hkn : k < n
    · have hki : (k : Int) < (n : Int) := by omega
      go_wp2_with fail
      refine (CP.out _).mono ?_
      rintro e wx ⟨rfl, rfl⟩
      go_wp2_with fail
      refine (CF.out _).mono ?_
      rintro e w1 ⟨rfl, hb1⟩
      have hz1 : wr.heap.size ≤ w1.heap.size := hb1.size
      have KZ1 := Lib.hid (KZ.out.below hb1 KZ.out.lt)
      have KW1 := Lib.hid (KW.out.below hb1 KW.out.lt)
      have HOA1 := Lib.hid (HOA.out.below hb1)
      have HOF1 := Lib.hid (HOF.out.below hb1)
      have HBr1 : Hid (Below g0 w w1) := HBr.out.trans (hb1.mono (by omega))
      clear hb1
      obtain ⟨V, HV⟩ : ∃ U, Hid (w1.alloc (.cells #[.int .i64 pu, .int .i64 0, .int .i64 0, .int .i64 0, .slice none 0 0, .slice none 0 0] 39) = U) := ⟨_, rfl⟩
      have KP : Hid (Blk V w1.heap.size 39 #[.int .i64 pu, .int .i64 0, .int .i64 0, .int .i64 0, .slice none 0 0, .slice none 0 0]) := by rw [← HV.out]; exact Blk.new _ _ _
      have KZ2 : Hid (Blk V g0 30 #[.int .i64 0, .int .i64 0, .slice none 0 0, .slice none 0 0, .slice none 0 0, .slice none 0 0]) := by rw [← HV.out]; exact KZ1.out.alloc _
      have KW2 : Hid (Blk V gw 30 #[.int .i64 sec, .int .i64 bad, .slice A1 k c1, .slice none 0 0, .slice (some ⟨g3, 0, none⟩) n n, .slice none 0 0]) := by rw [← HV.out]; exact KW1.out.alloc _
      have HOA2 : Hid (OwnRow HK2 V g0 (some ⟨g3, 0, none⟩) n (freshA n)) := by rw [← HV.out]; exact HOA1.out.alloc _
      have HOF2 : Hid (OwnRow FK V (g0 + 3) A1 c1 (freshF pu k)) := by rw [← HV.out]; exact HOF1.out.alloc _
      have HBV : Hid (Below g0 w V) := by rw [← HV.out]; exact HBr1.out.alloc (by omega) _
      have hzV : w1.heap.size < V.heap.size := KP.out.lt
      obtain ⟨p0, p1, p2, p3, p4, p5⟩ := run_cells KP.out
      have q2 := (run_cells KW2.out).2.2.1
      have HMM : Hid ((freshF pu k ++ [(⟨newF pu, none, 0, none, 0⟩ : FH)]).length = k + 1) := by show _ = _; rw [freshF_next, freshF_length]
      have HLK : Hid ((freshF pu k).length = k) := freshF_length pu k
      go_upto_region 7 with fail
      rw [HV.out]
      go_wp2_with (at_builtin; refine wpList_app_row (K := FK) Try.underlying25 HI0.out.1 HI0.out.2.1 HI0.out.2.2.1 HI0.out.2.2.2.1 HI0.out.2.2.2.2 (by decide) rfl (.tmp 32) (.tmp 34) rfl _ (g0 + 3) A1 c1 (freshF pu k) (by rw [HLK.out]; rfl) _ _ [(⟨newF pu, none, 0, none, 0⟩ : FH)] rfl (HOF2.out.alloc _) (one_newR FK V ⟨newF pu, none, 0, none, 0⟩ _) (by rw [HLK.out]; show k + 1 ≤ 1000000; omega) (by rw [World.size_alloc]; omega) (fun e => by cases e) ?_; intro v w3 hA; obtain ⟨Y, y, rfl, ho3⟩ := hA.own; have hb3 := hA.below; have HB3' : Hid (Below (g0 + 3) V w3) := ((Below.refl _ V).alloc (by omega) _).trans hb3; have HO3 := Lib.hid ho3; have KZ3 := Lib.hid (KZ2.out.below HB3'.out (by omega)); have KW3 := Lib.hid (KW2.out.below HB3'.out (by omega)); have kf3 : w3.frozen? ⟨gw, 2, none⟩ = false := blk_frozen KW3.out 2; have q3 : w3.cell? ⟨gw, 2, none⟩ = some (.slice A1 k c1) := KW3.out.cell 2; clear hA ho3 hb3; rw [HMM.out])
      have HOA3 : Hid (OwnRow HK2 w3 g0 (some ⟨g3, 0, none⟩) n (freshA n)) := HOA2.out.older (b1 := g0 + 3) (fun g e => by injection e with e; injection e with e; omega) HB3'.out
      have hz3 : V.heap.size ≤ w3.heap.size := HB3'.out.size
      have HB3w : Hid (Below g0 w w3) := HBV.out.trans (HB3'.out.mono (by omega))
      clear p0 p1 p2 p3 p4 p5 q2
      go_wp2
      go_roundw
      case rel =>
        refine ⟨k + 1, Y, y, by omega, by go_num, ?_, ?_, ?_, ?_, ?_, ?_⟩
        · exact HB3w.out.setCell (p := ⟨gw, 2, none⟩) (by show g0 ≤ gw; omega) _
        · show g0 + 3 ≤ (w3.setCell _ _).heap.size; rw [World.size_setCell]; omega
        · exact KZ3.out.setOther (p := ⟨gw, 2, none⟩) (by show gw ≠ g0; omega) _
        · exact KW3.out.setOwn 2 (.slice Y (k + 1) y)
        · exact HOA3.out.block (fun g e => Below.heap_setCell w3 ⟨gw, 2, none⟩ _ g (by injection e with e; injection e with e; show g ≠ gw; omega))
        · have h2 := HO3.out.block (w' := w3.setCell ⟨gw, 2, none⟩ (.slice Y (k + 1) y)) (fun g e => Below.heap_setCell w3 ⟨gw, 2, none⟩ _ g (by have := (HO3.out.lies g e).1; show g ≠ gw; omega))
          rw [freshF_next] at h2
          exact h2
      case measure => simp [intOf]; omega
    · have hke : k = n := by omega
      subst hke
      obtain ⟨a0, a1, a2, a3, a4, a5⟩ := run_cells KW.out
      obtain ⟨b0, b1, b2, b3, b4, b5⟩ := run_cells KZ.out
      have kf := blk_frozen KZ.out
      have hkz := KZ.out.lt
      have hkw := KW.out.lt
      go_wp2
      obtain ⟨V, HV⟩ : ∃ V, Hid ((((((wr.setCell ⟨g0, 0, none⟩ (.int .i64 sec)).setCell ⟨g0, 1, none⟩ (.int .i64 bad)).setCell ⟨g0, 2, none⟩ (.slice A1 k c1)).setCell ⟨g0, 3, none⟩ (.slice none 0 0)).setCell ⟨g0, 4, none⟩ (.slice (some ⟨g3, 0, none⟩) k k)).setCell ⟨g0, 5, none⟩ (.slice none 0 0) = V) := ⟨_, rfl⟩
      have hblk := Lib.hid (blk_six KZ.out (.int .i64 sec) (.int .i64 bad) (.slice A1 k c1) (.slice none 0 0) (.slice (some ⟨g3, 0, none⟩) k k) (.slice none 0 0))
      have hbel : Hid (Below g0 w V) := by
        rw [← HV.out]
        exact below_six HBr.out (Nat.le_refl _) _ _ _ _ _ _
      have heap : ∀ x, x ≠ g0 → V.heap[x]? = wr.heap[x]? := fun x hx => by
        rw [← HV.out]
        rw [Below.heap_setCell _ _ _ _ (by show x ≠ g0; exact hx), Below.heap_setCell _ _ _ _ (by show x ≠ g0; exact hx), Below.heap_setCell _ _ _ _ (by show x ≠ g0; exact hx), Below.heap_setCell _ _ _ _ (by show x ≠ g0; exact hx), Below.heap_setCell _ _ _ _ (by show x ≠ g0; exact hx), Below.heap_setCell _ _ _ _ (by show x ≠ g0; exact hx)]
      have h1 : Hid (OwnRow FK V g0 A1 c1 (freshF pu k)) := (HOF.out.block (fun g e => heap g (by have := (HOF.out.lies g e).1; omega))).base_le (by omega)
      have h3 : Hid (OwnRow HK2 V g0 (some ⟨g3, 0, none⟩) k (freshA k)) := HOA.out.block (fun g e => heap g (by injection e with e; injection e with e; omega))
      have hne : Hid (∀ g, A1 = some ⟨g, 0, none⟩ → g ≠ g3) := fun g e => by have := (HOF.out.lies g e).1; omega
      rw [HV.out] at hblk ⊢
      obtain ⟨c0, c1', c2, c3, c4, c5⟩ := run_cells hblk.out
      rw [← HG0.out] at h1 h3 hbel
      rw [← HPU.out] at h1
      exact bodyPost_ret (v := .tuple #[.agg #[.int .i64 sec, .int .i64 bad, .slice A1 k c1, .slice none 0 0, .slice (some ⟨g3, 0, none⟩) k k, .slice none 0 0], .bool true]) (by simp [results, Try.results6, go_sem, c0, c1', c2, c3, c4, c5]) rfl ⟨A1, c1, g3, rfl, ⟨h1.out, h3.out, hne.out⟩, by rw [HG0.out] at hbel ⊢; exact hbel.out⟩
end Go.Proofs.Ytkmebilhbjcfpaa
