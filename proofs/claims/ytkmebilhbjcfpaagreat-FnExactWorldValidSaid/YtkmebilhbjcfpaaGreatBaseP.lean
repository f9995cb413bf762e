/- How two connections are compared: cmp.Compare, cmp.Or and compareLinks. No conditions. Contracts of numbersValid, inRun and writerLeaves: numbers of a run, its peers, and the digests of the writer's blocks. Conditions: as each statement says. Contract of linksValid: it answers as the data say. Condition: the run lies in memory. Contract of fromWriter: it answers as the data say. Conditions: the fe -/
import Derived.Test.YtkmebilhbjcfpaaGreatBaseW
import Derived.Test.YtkmebilhbjcfpaaGreatBaseA
import Derived.Test.YtkmebilhbjcfpaaGreatBlk
import Derived.Deep.RegionHeld3
import Derived.Deep.DeepCutAuto
import Derived.Lib.Hide
import Derived.Test.YtkmebilhbjcfpaaGreatBaseH
import Derived.Test.YtkmebilhbjcfpaaGreatLeaves2
import Derived.BigQuiet
import Derived.Deep.QuietTactic
import Derived.Test.YtkmebilhbjcfpaaGreatBaseS
import Derived.Test.YtkmebilhbjcfpaaGreatFeedValid
namespace Go.Proofs.YtkmebilhbjcfpaaGreat
open Go.RowKit
set_option linter.unusedVariables false

def LcmpI (a b : Int) : Int := if a < b then -1 else if b < a then 1 else 0
def LorI (a b : Int) : Int := if a = 0 then b else a

set_option maxHeartbeats 1000000 in
theorem Lisnan_any (a : Int) (w : World) : Calls Tryz.prog 157 #[.int .i64 a] w fun e w' => e = .returned (.bool false) ∧ w' = w := by
  go_enter Tryz.func157, Tryz.ntmps157
  go_wp2
  go_ret
  exact ⟨by simp, rfl⟩
set_option maxHeartbeats 1000000 in
theorem Lcompare_any (a b : Int) (w : World) : Calls Tryz.prog 128 #[.int .i64 a, .int .i64 b] w fun e w' => e = .returned (.int .i64 (LcmpI a b)) ∧ w' = w := by
  have C1 := fun w => Lisnan_any a w
  have C2 := fun w => Lisnan_any b w
  obtain ⟨r, hr, hR⟩ : ∃ r, LcmpI a b = r ∧ ((a < b ∧ r = -1) ∨ (¬ a < b ∧ b < a ∧ r = 1) ∨ (¬ a < b ∧ ¬ b < a ∧ r = 0)) := by
    refine ⟨_, rfl, ?_⟩
    unfold LcmpI
    by_cases h1 : a < b
    · exact .inl ⟨h1, if_pos h1⟩
    · by_cases h2 : b < a
      · exact .inr (.inl ⟨h1, h2, by rw [if_neg h1, if_pos h2]⟩)
      · exact .inr (.inr ⟨h1, h2, by rw [if_neg h1, if_neg h2]⟩)
  rw [hr]
  clear hr
  rcases hR with ⟨h1, rfl⟩ | ⟨h1, h2, rfl⟩ | ⟨h1, h2, rfl⟩
  · go_enter Tryz.func128, Tryz.ntmps128
    go_wp2_with fail
    refine (C1 _).mono ?_
    rintro e w1 ⟨rfl, rfl⟩
    go_wp2_with fail
    refine (C2 _).mono ?_
    rintro e w1 ⟨rfl, rfl⟩
    go_wp2
    go_ret
    exact ⟨rfl, rfl⟩
  · go_enter Tryz.func128, Tryz.ntmps128
    go_wp2_with fail
    refine (C1 _).mono ?_
    rintro e w1 ⟨rfl, rfl⟩
    go_wp2_with fail
    refine (C2 _).mono ?_
    rintro e w1 ⟨rfl, rfl⟩
    go_wp2
    go_ret
    exact ⟨rfl, rfl⟩
  · go_enter Tryz.func128, Tryz.ntmps128
    go_wp2_with fail
    refine (C1 _).mono ?_
    rintro e w1 ⟨rfl, rfl⟩
    go_wp2_with fail
    refine (C2 _).mono ?_
    rintro e w1 ⟨rfl, rfl⟩
    go_wp2
    go_ret
    exact ⟨rfl, rfl⟩
set_option maxHeartbeats 1000000 in
theorem Lor_any (A : Option Addr) (cap : Nat) (a b : Int) (w : World) (hI : IntsAt w w.heap.size A [a, b]) : Calls Tryz.prog 127 #[.slice A 2 cap] w fun e w' => e = .returned (.int .i64 (LorI a b)) ∧ w' = w := by
  obtain ⟨g, o, rfl, _, hc⟩ := hI (by simp)
  have c0 : w.cell? ⟨g, o + 0, none⟩ = some (.int .i64 a) := hc 0 (by simp)
  have c1 : w.cell? ⟨g, o + 1, none⟩ = some (.int .i64 b) := hc 1 (by simp)
  rw [Nat.add_zero] at c0
  clear hc hI
  have ho : LorI a b = if a = 0 then b else a := rfl
  by_cases h0 : a = 0
  · rw [ho, if_pos h0]
    clear ho
    subst h0
    by_cases h1 : b = 0
    · subst h1
      go_enter Tryz.func127, Tryz.ntmps127
      go_wp2
      refine wp_loop_rounds 3 ?_
      rw [rounds_succ]
      go_wp2
      rw [rounds_succ]
      go_wp2
      rw [rounds_succ]
      go_wp2
      go_ret
      exact ⟨rfl, rfl⟩
    · have hb : (b == 0) = false := beq_eq_false_iff_ne.2 h1
      go_enter Tryz.func127, Tryz.ntmps127
      go_wp2
      refine wp_loop_rounds 2 ?_
      rw [rounds_succ]
      go_wp2
      rw [rounds_succ]
      go_wp2
      go_ret
      exact ⟨rfl, rfl⟩
  · rw [ho, if_neg h0]
    clear ho
    have ha : (a == 0) = false := beq_eq_false_iff_ne.2 h0
    go_enter Tryz.func127, Tryz.ntmps127
    go_wp2
    refine wp_loop_rounds 1 ?_
    rw [rounds_succ]
    go_wp2
    go_ret
    exact ⟨rfl, rfl⟩

theorem Ltwo_new (W : World) (a b : Int) : IntsAt (W.alloc (.cells #[.int .i64 a, .int .i64 b] 3)) (W.alloc (.cells #[.int .i64 a, .int .i64 b] 3)).heap.size (some ⟨W.heap.size, 0, none⟩) [a, b] := fun _ => by
  have hb := Blk.new W 3 #[.int .i64 a, .int .i64 b]
  refine ⟨W.heap.size, 0, rfl, by simp, fun k hk => ?_⟩
  rw [Nat.zero_add, hb.cell k]
  rcases k with _ | _ | k
  · rfl
  · rfl
  · simp at hk; omega
theorem Ltwo_newD (W : World) (a b : Int) : IntsAt (W.alloc (.cells #[.int .i64 a, .int .i64 b] 3)).drew (W.alloc (.cells #[.int .i64 a, .int .i64 b] 3)).drew.heap.size (some ⟨W.heap.size, 0, none⟩) [a, b] := Ltwo_new W a b


/-- How two connections are compared. -/
def cmpK (x y : LinkD) : Int := LorI (LcmpI x.a y.a) (LcmpI x.b y.b)
theorem cmpK_neg (x y : LinkD) : cmpK x y < 0 ↔ ltK x y := by
  unfold cmpK LorI LcmpI ltK
  split <;> split <;> (try split) <;> (try split) <;> omega
theorem cmpK_zero (x y : LinkD) : cmpK x y = 0 ↔ x = y := by
  constructor
  · intro h
    unfold cmpK LorI LcmpI at h
    refine LinkD.same ?_ ?_
    · split at h <;> split at h <;> (try split at h) <;> (try split at h) <;> omega
    · split at h <;> split at h <;> (try split at h) <;> (try split at h) <;> omega
  · rintro rfl
    unfold cmpK LorI LcmpI
    simp
theorem link2 {W : World} {g : Nat} {t : TypeId} {v0 v1 : Value} (h : Blk W g t #[v0, v1]) : W.cell? ⟨g, 0, none⟩ = some v0 ∧ W.cell? ⟨g, 1, none⟩ = some v1 := ⟨h.cell 0, h.cell 1⟩

set_option maxHeartbeats 3000000 in
set_option maxRecDepth 100000 in
theorem cmpLinks_any (x y : LinkD) (w : World) :
    Calls Tryz.prog 81 #[.agg #[.int .i64 x.a, .int .i64 x.b], .agg #[.int .i64 y.a, .int .i64 y.b]] w fun e w' => e = .returned (.int .i64 (cmpK x y)) ∧ Below w.heap.size w w' := by
  obtain ⟨xa, xb⟩ := x
  obtain ⟨ya, yb⟩ := y
  have HO : Hid (cmpK ⟨xa, xb⟩ ⟨ya, yb⟩ = LorI (LcmpI xa ya) (LcmpI xb yb)) := rfl
  rw [HO.out]
  obtain ⟨W, HW⟩ : ∃ W, Hid ((w.alloc (.cells #[.int .i64 xa, .int .i64 xb] 73)).alloc (.cells #[.int .i64 ya, .int .i64 yb] 73) = W) := ⟨_, rfl⟩
  have KX : Hid (Blk W w.heap.size 73 #[.int .i64 xa, .int .i64 xb]) := by rw [← HW.out]; exact (Blk.new w _ _).alloc _
  have KY : Hid (Blk W (w.heap.size + 1) 73 #[.int .i64 ya, .int .i64 yb]) := by
    rw [← HW.out]
    have := Blk.new (w.alloc (.cells #[.int .i64 xa, .int .i64 xb] 73)) 73 #[.int .i64 ya, .int .i64 yb]
    rwa [World.size_alloc] at this
  have HB : Hid (Below w.heap.size w W) := by rw [← HW.out]; exact ((Below.refl _ w).alloc (Nat.le_refl _) _).alloc (by rw [World.size_alloc]; omega) _
  obtain ⟨x0, x1⟩ := link2 KX.out
  obtain ⟨y0, y1⟩ := link2 KY.out
  have hsz : w.heap.size ≤ W.heap.size := HB.out.size
  go_enter Tryz.func81, Tryz.ntmps81
  go_upto_region 1 with fail
  rw [HW.out]
  go_region_held3 (fun w' => w'.cell? ⟨w.heap.size, 0, none⟩ = some (.int .i64 xa) ∧ w'.cell? ⟨w.heap.size, 1, none⟩ = some (.int .i64 xb) ∧ w'.cell? ⟨w.heap.size + 1, 0, none⟩ = some (.int .i64 ya) ∧ w'.cell? ⟨w.heap.size + 1, 1, none⟩ = some (.int .i64 yb)) (go_keep)
    (first
      | (go_at_call 128; (with_reducible refine (Lcompare_any _ _ _).mono ?_); rintro e w' ⟨rfl, rfl⟩)
      | (go_at_call 127; (with_reducible refine (Lor_any _ _ _ _ _ (Ltwo_newD _ _ _)).mono ?_); rintro e w' ⟨rfl, rfl⟩))
  all_goals (go_wp2; go_ret)
  all_goals exact ⟨rfl, HB.out.trans (below_drew ((Below.refl _ _).alloc (by omega) _))⟩
end Go.Proofs.YtkmebilhbjcfpaaGreat

namespace Go.Proofs.YtkmebilhbjcfpaaGreat
open Go.RowKit
set_option linter.unusedVariables false

theorem newOk_no {s n b : Int} (h : ¬ ((1 ≤ s ∧ s < 997) ∧ (1 ≤ n ∧ n ≤ 6) ∧ (b = -1 ∨ (1 ≤ b ∧ b ≤ n - 1)))) : newOk s n b = false := by
  rw [Bool.eq_false_iff]; exact fun e => h ((newOk_iff _ _ _).1 e)
set_option maxHeartbeats 2000000 in
theorem nums_any (s n b : Int) (w : World) :
    Calls Tryz.prog 31 #[.int .i64 s, .int .i64 n, .int .i64 b] w fun e w' => e = .returned (.bool (newOk s n b)) ∧ w' = w := by
  obtain ⟨res, HR⟩ : ∃ x, Hid (newOk s n b = x) := ⟨_, rfl⟩
  rw [HR.out]
  by_cases hk : 1 ≤ s ∧ s < 997
  · by_cases h1 : 1 ≤ n
    · by_cases h6 : n ≤ 6
      · by_cases hb : b = -1
        · have HF : Hid (res = true) := by show _ = _; rw [← HR.out, newOk_iff]; exact ⟨hk, ⟨h1, h6⟩, .inl hb⟩
          have hbe : (b == -1) = true := by rw [hb]; rfl
          go_enter Tryz.func31, Tryz.ntmps31
          go_wp2_with fail
          refine (key_yes _ _ hk.1 hk.2).mono ?_
          rintro e w1 ⟨rfl, rfl⟩
          go_wp2
          go_ret
          exact ⟨ret_bool HF.out.symm, rfl⟩
        · have hbe : (b == -1) = false := beq_eq_false_iff_ne.2 hb
          by_cases hb1 : 1 ≤ b
          · by_cases hb2 : b < n
            · have HF : Hid (res = true) := by show _ = _; rw [← HR.out, newOk_iff]; exact ⟨hk, ⟨h1, h6⟩, .inr ⟨hb1, by omega⟩⟩
              clear hb
              go_enter Tryz.func31, Tryz.ntmps31
              go_wp2_with fail
              refine (key_yes _ _ hk.1 hk.2).mono ?_
              rintro e w1 ⟨rfl, rfl⟩
              go_wp2
              go_ret
              exact ⟨ret_bool HF.out.symm, rfl⟩
            · have HF : Hid (res = false) := by show _ = _; rw [← HR.out]; exact newOk_no (by omega)
              have hd : decide (b < n) = false := decide_eq_false hb2
              clear hb
              go_enter Tryz.func31, Tryz.ntmps31
              go_wp2_with fail
              refine (key_yes _ _ hk.1 hk.2).mono ?_
              rintro e w1 ⟨rfl, rfl⟩
              go_wp2
              go_ret
              exact ⟨ret_bool HF.out.symm, rfl⟩
          · have HF : Hid (res = false) := by show _ = _; rw [← HR.out]; exact newOk_no (by omega)
            clear hb
            go_enter Tryz.func31, Tryz.ntmps31
            go_wp2_with fail
            refine (key_yes _ _ hk.1 hk.2).mono ?_
            rintro e w1 ⟨rfl, rfl⟩
            go_wp2
            go_ret
            exact ⟨ret_bool HF.out.symm, rfl⟩
      · have HF : Hid (res = false) := by show _ = _; rw [← HR.out]; exact newOk_no (by omega)
        go_enter Tryz.func31, Tryz.ntmps31
        go_wp2_with fail
        refine (key_yes _ _ hk.1 hk.2).mono ?_
        rintro e w1 ⟨rfl, rfl⟩
        go_wp2
        go_ret
        exact ⟨ret_bool HF.out.symm, rfl⟩
    · have HF : Hid (res = false) := by show _ = _; rw [← HR.out]; exact newOk_no (by omega)
      go_enter Tryz.func31, Tryz.ntmps31
      go_wp2_with fail
      refine (key_yes _ _ hk.1 hk.2).mono ?_
      rintro e w1 ⟨rfl, rfl⟩
      go_wp2
      go_ret
      exact ⟨ret_bool HF.out.symm, rfl⟩
  · have HF : Hid (res = false) := by show _ = _; rw [← HR.out]; exact newOk_no (fun x => hk x.1)
    have HK := Lib.hid hk
    clear hk
    go_enter Tryz.func31, Tryz.ntmps31
    go_wp2_with fail
    refine (key_no _ _ HK.out).mono ?_
    rintro e w1 ⟨rfl, rfl⟩
    go_wp2
    go_ret
    exact ⟨ret_bool HF.out.symm, rfl⟩

/-- Is there such a peer? -/
def inR (m : Nat) (p : Int) : Bool := decide (0 ≤ p) && decide (p < (m : Int))
theorem inR_iff (m : Nat) (p : Int) : inR m p = true ↔ 0 ≤ p ∧ p < (m : Int) := by unfold inR; rw [Bool.and_eq_true, decide_eq_true_eq, decide_eq_true_eq]
theorem inR_no {m : Nat} {p : Int} (h : ¬ (0 ≤ p ∧ p < (m : Int))) : inR m p = false := by rw [Bool.eq_false_iff]; exact fun e => h ((inR_iff m p).1 e)
set_option maxHeartbeats 2000000 in
set_option maxRecDepth 100000 in
theorem inRun_any (sec bad : Int) (r : WR) (m n2 : Nat) (p : Int) (w : World) :
    Calls Tryz.prog 80 #[.agg #[.int .i64 sec, .int .i64 bad, .slice r.A1 m r.c1, .slice r.A2 n2 r.c2, .slice r.A3 r.ah.length r.c3, .slice r.A4 r.qh.length r.c4], .int .i64 p] w fun e w' => e = .returned (.bool (inR m p)) ∧ Below w.heap.size w w' := by
  obtain ⟨W, HW⟩ : ∃ W, Hid (w.alloc (.cells #[.int .i64 sec, .int .i64 bad, .slice r.A1 m r.c1, .slice r.A2 n2 r.c2, .slice r.A3 r.ah.length r.c3, .slice r.A4 r.qh.length r.c4] 35) = W) := ⟨_, rfl⟩
  have KA : Hid (Blk W w.heap.size 35 #[.int .i64 sec, .int .i64 bad, .slice r.A1 m r.c1, .slice r.A2 n2 r.c2, .slice r.A3 r.ah.length r.c3, .slice r.A4 r.qh.length r.c4]) := by rw [← HW.out]; exact Blk.new w _ _
  have HB : Hid (Below w.heap.size w W) := by rw [← HW.out]; exact (Below.refl _ w).alloc (Nat.le_refl _) _
  have k2 := (run_cells KA.out).2.2.1
  by_cases h0 : 0 ≤ p
  · by_cases h1 : p < (m : Int)
    · have HF : Hid (inR m p = true) := (inR_iff m p).2 ⟨h0, h1⟩
      go_enter Tryz.func80, Tryz.ntmps80
      go_upto_region 1 with fail
      rw [HW.out]
      go_wp2
      go_ret
      exact ⟨ret_bool HF.out.symm, HB.out⟩
    · have HF : Hid (inR m p = false) := inR_no (by omega)
      go_enter Tryz.func80, Tryz.ntmps80
      go_upto_region 1 with fail
      rw [HW.out]
      go_wp2
      go_ret
      exact ⟨ret_bool HF.out.symm, HB.out⟩
  · have HF : Hid (inR m p = false) := inR_no (by omega)
    go_enter Tryz.func80, Tryz.ntmps80
    go_upto_region 1 with fail
    rw [HW.out]
    go_wp2
    go_ret
    exact ⟨ret_bool HF.out.symm, HB.out⟩

set_option maxHeartbeats 1000000 in
theorem leavesT_empty (A : Option Addr) (cap : Nat) (w : World) :
    Calls Tryz.prog 121 #[.slice A 0 cap] w (RetSome w []) := by
  go_enter Tryz.func121, Tryz.ntmps121
  go_wp2
  refine wp_loop_rounds 1 ?_
  rw [rounds_succ]
  go_wp2
  go_ret
  exact ⟨w.heap.size, 0, rfl, OwnInts.new w, (Below.refl _ _).alloc (Nat.le_refl _) _⟩
theorem leavesT_some (A : Option Addr) (cap : Nat) (bs : List ByteArray) (w : World) (hI : StrsAt w w.heap.size A bs) (hf : Fit bs) (hm : bs.length ≤ 1048576) :
    Calls Tryz.prog 121 #[.slice A bs.length cap] w (RetSome w (leafL bs)) := by
  by_cases h : bs.length = 0
  · have e := List.eq_nil_of_length_eq_zero h
    subst e
    exact leavesT_empty A cap w
  · refine (textDigests_any A cap bs w hI hf hm).mono ?_
    rintro e w' ⟨X, c, rfl, ho, hb⟩
    obtain ⟨b, hX⟩ := OwnInts.some_ ho (by rw [leafL_length]; omega)
    subst hX
    exact ⟨b, c, rfl, ho, hb⟩

set_option maxHeartbeats 3000000 in
set_option maxRecDepth 100000 in
theorem wLeaves_any (sec bad : Int) (r : WR) (ls : List LinkD) (m n2 : Nat) (w : World) (h : RunAt w w.heap.size r ls) (hm : r.fh.length = m) (hp : 0 < m) (h16 : (fhth r.fh 0).f.bs.length ≤ 16) :
    Calls Tryz.prog 76 #[.agg #[.int .i64 sec, .int .i64 bad, .slice r.A1 m r.c1, .slice r.A2 n2 r.c2, .slice r.A3 r.ah.length r.c3, .slice r.A4 r.qh.length r.c4]] w (RetSome w (leafL (fhth r.fh 0).f.bs)) := by
  subst hm
  have hF := h.feed 0 hp
  obtain ⟨b, o, hA1⟩ := h.r1.some_ hp
  have hc := (feed_cells6 (hA1 ▸ h.r1) 0 hp).2.2.2.2.1
  have hlt : b < w.heap.size := ((hA1 ▸ h.r1 : RowAt FK w w.heap.size (some ⟨b, o, none⟩) r.fh).lt hp).1
  obtain ⟨H, hH⟩ : ∃ x, fhth r.fh 0 = x := ⟨_, rfl⟩
  rw [hH] at hF hc h16 ⊢
  obtain ⟨W, HW⟩ : ∃ W, Hid (w.alloc (.cells #[.int .i64 sec, .int .i64 bad, .slice r.A1 r.fh.length r.c1, .slice r.A2 n2 r.c2, .slice r.A3 r.ah.length r.c3, .slice r.A4 r.qh.length r.c4] 35) = W) := ⟨_, rfl⟩
  have KA : Hid (Blk W w.heap.size 35 #[.int .i64 sec, .int .i64 bad, .slice r.A1 r.fh.length r.c1, .slice r.A2 n2 r.c2, .slice r.A3 r.ah.length r.c3, .slice r.A4 r.qh.length r.c4]) := by rw [← HW.out]; exact Blk.new w _ _
  have HB : Hid (Below w.heap.size w W) := by rw [← HW.out]; exact (Below.refl _ w).alloc (Nat.le_refl _) _
  have k2 := (run_cells KA.out).2.2.1
  have c4 := (HB.out.cell (p := ⟨b, o + 0 * 6 + 4, none⟩) hlt).trans hc
  rw [show o + 0 * 6 + 4 = o + 4 by omega] at c4
  obtain ⟨N1, HN1⟩ : ∃ n, Hid (r.fh.length = n) := ⟨_, rfl⟩
  rw [hA1, HN1.out] at k2
  have hp1 : 0 < N1 := by rw [← HN1.out]; exact hp
  have C := Lib.hid (leavesT_some H.a1 H.c1 H.f.bs W (hF.feed.strs.belowS HB.out) hF.feed.fit (by omega))
  obtain ⟨m1, HM1⟩ : ∃ m, Hid (H.f.bs.length = m) := ⟨_, rfl⟩
  rw [HM1.out] at C c4
  have hbz : w.heap.size ≤ W.heap.size := HB.out.size
  clear hF hc h16 hA1 hH h hp
  go_enter Tryz.func76, Tryz.ntmps76
  go_upto_region 1 with fail
  rw [HW.out]
  go_wp2_with fail
  refine C.out.mono ?_
  rintro e w2 ⟨g, c, rfl, ho, hb⟩
  have HO := Lib.hid (ho.base_le hbz)
  have HB2 : Hid (Below w.heap.size w w2) := HB.out.trans (hb.mono hbz)
  clear ho hb
  go_wp2
  go_ret
  exact ⟨g, c, rfl, HO.out, HB2.out⟩
end Go.Proofs.YtkmebilhbjcfpaaGreat

namespace Go.Proofs.YtkmebilhbjcfpaaGreat
open Go.RowKit
set_option linter.unusedVariables false

theorem fitK_eq (m : Nat) (ls : List LinkD) (k : Nat) {va vb : Int} (e : kth2 ls k = ⟨va, vb⟩) : fitK m ls k = (inR m va && (inR m vb && (decide (va < vb) && (decide (k = 0) || decide (ltK (kth2 ls (k - 1)) ⟨va, vb⟩))))) := by
  rw [Bool.eq_iff_iff, fitK_iff, e]
  simp only [Bool.and_eq_true, inR_iff, decide_eq_true_eq, Bool.or_eq_true]
  constructor
  · rintro ⟨⟨a, b, c⟩, d⟩
    exact ⟨⟨a, by omega⟩, ⟨by omega, c⟩, b, d⟩
  · rintro ⟨⟨a, b⟩, ⟨c, d⟩, f, g⟩
    exact ⟨⟨a, f, d⟩, g⟩

set_option maxHeartbeats 6000000 in
set_option maxRecDepth 100000 in
theorem links_any (sec bad : Int) (r : WR) (ls : List LinkD) (w : World) (h : RunAt w w.heap.size r ls) {n m : Nat} (hn : ls.length = n) (hm : r.fh.length = m) :
    Calls Tryz.prog 33 #[.agg #[.int .i64 sec, .int .i64 bad, .slice r.A1 m r.c1, .slice r.A2 n r.c2, .slice r.A3 r.ah.length r.c3, .slice r.A4 r.qh.length r.c4]] w fun e w' => e = .returned (.bool (linksB m ls)) ∧ Below w.heap.size w w' := by
  have hm2 := h.m2
  have hm1 := h.m1
  unfold maxLen at hm2 hm1
  rw [hn] at hm2
  rw [hm] at hm1
  obtain ⟨W, HW⟩ : ∃ W, Hid (w.alloc (.cells #[.int .i64 sec, .int .i64 bad, .slice r.A1 m r.c1, .slice r.A2 n r.c2, .slice r.A3 r.ah.length r.c3, .slice r.A4 r.qh.length r.c4] 35) = W) := ⟨_, rfl⟩
  have KA : Hid (Blk W w.heap.size 35 #[.int .i64 sec, .int .i64 bad, .slice r.A1 m r.c1, .slice r.A2 n r.c2, .slice r.A3 r.ah.length r.c3, .slice r.A4 r.qh.length r.c4]) := by rw [← HW.out]; exact Blk.new w _ _
  have HB : Hid (Below w.heap.size w W) := by rw [← HW.out]; exact (Below.refl _ w).alloc (Nat.le_refl _) _
  have HR := Lib.hid (h.r2.belowS HB.out)
  have HN := Lib.hid hn
  have hbzW : w.heap.size < W.heap.size := KA.out.lt
  have k3 := (run_cells KA.out).2.2.2.1
  clear h hn hm
  have C1 : Hid (∀ (p : Int) (U : World), Calls Tryz.prog 80 #[.agg #[.int .i64 sec, .int .i64 bad, .slice r.A1 m r.c1, .slice r.A2 n r.c2, .slice r.A3 r.ah.length r.c3, .slice r.A4 r.qh.length r.c4], .int .i64 p] U fun e w' => e = .returned (.bool (inR m p)) ∧ Below U.heap.size U w') := fun p U => inRun_any sec bad r m n p U
  obtain ⟨res, HRES⟩ : ∃ x, Hid (linksB m ls = x) := ⟨_, rfl⟩
  rw [HRES.out]
  obtain ⟨A2, HA2⟩ : ∃ x, Hid (r.A2 = x) := ⟨_, rfl⟩
  rw [HA2.out] at k3 KA HR C1 HW ⊢
  obtain ⟨A1, HA1⟩ : ∃ x, Hid (r.A1 = x) := ⟨_, rfl⟩
  rw [HA1.out] at KA C1 HW ⊢
  go_enter Tryz.func33, Tryz.ntmps33
  go_upto_region 1 with fail
  rw [HW.out]
  go_wp2
  go_loopw [8] (fun i wr => ∃ k : Nat, k ≤ n ∧ i = .int .i64 (k : Int) ∧ Hid (Below W.heap.size W wr) ∧ Hid (∀ j, j < k → fitK m ls j = true)) (fun i _ => n - (intOf i).toNat)
  case atStart => exact ⟨0, Nat.zero_le _, rfl, Below.refl _ _, fun j hj => absurd hj (Nat.not_lt_zero _)⟩
  case round =>
    obtain ⟨k, hk, rfl, HBr, HC⟩ := hrel
    have HB0 : Hid (Below w.heap.size w wr) := HB.out.trans (HBr.out.mono (by omega))
    by_cases hkn : k < n
    · have hkz : k < ls.length := by rw [HN.out]; exact hkn
      have HRr := Lib.hid (HR.out.belowS HBr.out)
      obtain ⟨c, o, rfl⟩ := HRr.out.some_ (by omega)
      obtain ⟨c0, c1⟩ := link_cells2 HRr.out k hkz
      obtain ⟨p0, p1⟩ := link_cells2 HRr.out (k - 1) (by omega)
      have hcl : c < wr.heap.size := (HRr.out.lt (by omega)).1
      obtain ⟨va, HVA⟩ : ∃ x, Hid ((kth2 ls k).a = x) := ⟨_, rfl⟩
      obtain ⟨vb, HVB⟩ : ∃ x, Hid ((kth2 ls k).b = x) := ⟨_, rfl⟩
      obtain ⟨pa, HPA⟩ : ∃ x, Hid ((kth2 ls (k - 1)).a = x) := ⟨_, rfl⟩
      obtain ⟨pb, HPB⟩ : ∃ x, Hid ((kth2 ls (k - 1)).b = x) := ⟨_, rfl⟩
      obtain ⟨q, HQ⟩ : ∃ x, Hid (k - 1 = x) := ⟨_, rfl⟩
      rw [HVA.out] at c0
      rw [HVB.out] at c1
      rw [HPA.out, HQ.out] at p0
      rw [HPB.out, HQ.out] at p1
      have hk0 : (0 : Int) ≤ (k : Int) := by omega
      have hki : (k : Int) < (n : Int) := by omega
      have HFI : Hid (fitK m ls k = (inR m va && (inR m vb && (decide (va < vb) && (decide (k = 0) || decide (ltK ⟨pa, pb⟩ ⟨va, vb⟩)))))) := by
        have e1 : kth2 ls k = ⟨va, vb⟩ := LinkD.same HVA.out HVB.out
        have e2 : kth2 ls (k - 1) = ⟨pa, pb⟩ := LinkD.same HPA.out HPB.out
        show _ = _
        rw [fitK_eq m ls k e1, e2]
      have HNO : Hid (fitK m ls k = false → res = false) := fun e => HRES.out.symm.trans (linksB_no hkz e)
      have HS : Hid (fitK m ls k = true → ∀ j, j < k + 1 → fitK m ls j = true) := fun e j hj => by
        rcases Nat.lt_or_ge j k with h | h
        · exact HC.out j h
        · have : j = k := by omega
          subst this; exact e
      obtain ⟨V, HV⟩ : ∃ V, Hid (wr.alloc (.cells #[.int .i64 va, .int .i64 vb] 73) = V) := ⟨_, rfl⟩
      have KL : Hid (Blk V wr.heap.size 73 #[.int .i64 va, .int .i64 vb]) := by rw [← HV.out]; exact Blk.new wr _ _
      have HBV : Hid (Below wr.heap.size wr V) := by rw [← HV.out]; exact (Below.refl _ wr).alloc (Nat.le_refl _) _
      have HBVw : Hid (Below W.heap.size W V) := HBr.out.trans (HBV.out.mono HBr.out.size)
      have HB1 : Hid (Below w.heap.size w V) := HB.out.trans (HBVw.out.mono (by omega))
      have l0 := KL.out.cell 0
      have l1 := KL.out.cell 1
      have KAv : Hid (Blk V w.heap.size 35 _) := KA.out.below HBVw.out hbzW
      obtain ⟨v0, v1, v2, v3, v4, v5⟩ := run_cells KAv.out
      have d0 := (HBV.out.cell (p := ⟨c, o + q * 2, none⟩) hcl).trans p0
      have d1 := (HBV.out.cell (p := ⟨c, o + q * 2 + 1, none⟩) hcl).trans p1
      have hwr : wr.heap.size < V.heap.size := KL.out.lt
      have hwv : w.heap.size < V.heap.size := KAv.out.lt
      have hcv : c < V.heap.size := by omega
      clear hkz p0 p1
      go_upto_region 4 with fail
      rw [HV.out]
      cases h1 : inR m va with
      | false =>
        rw [h1] at HFI
        have HF : Hid (res = false) := HNO.out (by rw [HFI.out]; rfl)
        have C1a := Lib.hid (C1.out va V)
        rw [h1] at C1a
        clear h1
        go_wp2_with fail
        refine C1a.out.mono ?_
        rintro e w2 ⟨rfl, hb2⟩
        have HB2 : Hid (Below w.heap.size w w2) := HB1.out.trans (hb2.mono (by omega))
        clear hb2
        go_wp2
        go_ret
        exact ⟨ret_bool HF.out.symm, HB2.out⟩
      | true =>
        rw [h1] at HFI
        have C1a := Lib.hid (C1.out va V)
        rw [h1] at C1a
        clear h1
        go_wp2_with fail
        refine C1a.out.mono ?_
        rintro e w2 ⟨rfl, hb2⟩
        have HB2 : Hid (Below w.heap.size w w2) := HB1.out.trans (hb2.mono (by omega))
        have KL2 := Lib.hid (KL.out.below hb2 hwr)
        have KA2 := Lib.hid (KAv.out.below hb2 hwv)
        have HBW2 : Hid (Below W.heap.size W w2) := HBVw.out.trans (hb2.mono (by have := HBVw.out.size; omega))
        have d0 := (hb2.cell (p := ⟨c, o + q * 2, none⟩) hcv).trans d0
        have d1 := (hb2.cell (p := ⟨c, o + q * 2 + 1, none⟩) hcv).trans d1
        have hz2 : V.heap.size ≤ w2.heap.size := hb2.size
        clear hb2 l0 l1 v0 v1 v2 v3 v4 v5 C1a
        have l0 := KL2.out.cell 0
        have l1 := KL2.out.cell 1
        obtain ⟨v0, v1, v2, v3, v4, v5⟩ := run_cells KA2.out
        have C1b := Lib.hid (C1.out vb w2)
        cases h2 : inR m vb with
        | false =>
          rw [h2] at HFI C1b
          have HF : Hid (res = false) := HNO.out (by rw [HFI.out]; rfl)
          clear h2
          go_wp2_with fail
          refine C1b.out.mono ?_
          rintro e w3 ⟨rfl, hb3⟩
          have HB3 : Hid (Below w.heap.size w w3) := HB2.out.trans (hb3.mono (by omega))
          clear hb3
          go_wp2
          go_ret
          exact ⟨ret_bool HF.out.symm, HB3.out⟩
        | true =>
          rw [h2] at HFI C1b
          clear h2
          go_wp2_with fail
          refine C1b.out.mono ?_
          rintro e w3 ⟨rfl, hb3⟩
          have HB3 : Hid (Below w.heap.size w w3) := HB2.out.trans (hb3.mono (by omega))
          have KL3 := Lib.hid (KL2.out.below hb3 (by omega))
          have KA3 := Lib.hid (KA2.out.below hb3 (by omega))
          have HBW3 : Hid (Below W.heap.size W w3) := HBW2.out.trans (hb3.mono (by have := HBVw.out.size; omega))
          have d0 := (hb3.cell (p := ⟨c, o + q * 2, none⟩) (by show c < w2.heap.size; omega)).trans d0
          have d1 := (hb3.cell (p := ⟨c, o + q * 2 + 1, none⟩) (by show c < w2.heap.size; omega)).trans d1
          have hz3 : w2.heap.size ≤ w3.heap.size := hb3.size
          clear hb3 l0 l1 v0 v1 v2 v3 v4 v5 C1b
          have l0 := KL3.out.cell 0
          have l1 := KL3.out.cell 1
          obtain ⟨v0, v1, v2, v3, v4, v5⟩ := run_cells KA3.out
          by_cases hab : va < vb
          · have hd1 : decide (va < vb) = true := decide_eq_true hab
            have hd2 : decide (vb ≤ va) = false := decide_eq_false (by omega)
            rw [hd1] at HFI
            clear hd1 hab
            rcases Nat.eq_zero_or_pos k with hkk | hkp
            · have HS2 := Lib.hid (HS.out (by rw [HFI.out, decide_eq_true hkk]; rfl))
              have hkd : ¬ (0 : Int) < (k : Int) := by omega
              have hkd2 : decide (0 < k) = false := decide_eq_false (by omega)
              have hkd3 : decide ((0 : Int) < (k : Int)) = false := decide_eq_false hkd
              clear hkk
              go_wp2_with fail
              go_quiet (fail)
              go_wp2
              go_roundw
              case rel => exact ⟨k + 1, by omega, by go_num, below_drewN HBW3.out _, HS2.out⟩
              case measure => simp [intOf]; omega
            · have hkd : (0 : Int) < (k : Int) := by omega
              have hkd2 : decide (0 < k) = true := decide_eq_true hkp
              have hkd3 : decide ((0 : Int) < (k : Int)) = true := decide_eq_true hkd
              have hqw : IntKind.i64.wrap ((k : Int) - 1) = (q : Int) := by have hQ := HQ.out; rw [show (k : Int) - 1 = (q : Int) by omega]; exact IntWalk.i64_in _ (by omega)
              have hq0 : (0 : Int) ≤ (q : Int) := by omega
              have hqi : (q : Int) < (n : Int) := by have := HQ.out; omega
              have HZ : Hid (decide (k = 0) = false) := decide_eq_false (by omega)
              rw [HZ.out] at HFI
              clear hkp
              have CK := Lib.hid (fun U : World => cmpLinks_any ⟨pa, pb⟩ ⟨va, vb⟩ U)
              obtain ⟨z, HZK⟩ : ∃ z, Hid (cmpK ⟨pa, pb⟩ ⟨va, vb⟩ = z) := ⟨_, rfl⟩
              rw [HZK.out] at CK
              have HZN : Hid (z < 0 ↔ ltK ⟨pa, pb⟩ ⟨va, vb⟩) := by rw [← HZK.out]; exact cmpK_neg _ _
              have hwz : w.heap.size < w3.heap.size := by omega
              go_wp2_with fail
              go_region_held3 (fun w' => w'.cell? ⟨w.heap.size, 3, none⟩ = some (.slice (some ⟨c, o, none⟩) n r.c2) ∧ w'.cell? ⟨wr.heap.size, 0, none⟩ = some (.int .i64 va) ∧ w'.cell? ⟨wr.heap.size, 1, none⟩ = some (.int .i64 vb) ∧ w'.cell? ⟨c, o + q * 2, none⟩ = some (.int .i64 pa) ∧ w'.cell? ⟨c, o + q * 2 + 1, none⟩ = some (.int .i64 pb)) (go_keep)
                (first
                  | (go_at_call 81; (with_reducible refine (CK.out _).mono ?_); rintro e w4 ⟨rfl, hb4⟩; have HB4 : Hid (Below w3.heap.size w3 w4) := below_drew_l hb4; have hw4 : w3.heap.size ≤ w4.heap.size := HB4.out.size; have HB4w : Hid (Below w.heap.size w w4) := HB3.out.trans (HB4.out.mono (by omega)); have HBW4 : Hid (Below W.heap.size W w4) := HBW3.out.trans (HB4.out.mono HBW3.out.size); have u3 := (run_cells (KA3.out.below HB4.out hwz)).2.2.2.1; have t0 := (HB4.out.cell (p := ⟨wr.heap.size, 0, none⟩) (by show wr.heap.size < w3.heap.size; omega)).trans l0; have t1 := (HB4.out.cell (p := ⟨wr.heap.size, 1, none⟩) (by show wr.heap.size < w3.heap.size; omega)).trans l1; have e0 := (HB4.out.cell (p := ⟨c, o + q * 2, none⟩) (by show c < w3.heap.size; omega)).trans d0; have e1 := (HB4.out.cell (p := ⟨c, o + q * 2 + 1, none⟩) (by show c < w3.heap.size; omega)).trans d1; clear hb4))
              by_cases hz : z < 0
              · have hzd : decide (0 ≤ z) = false := decide_eq_false (by omega)
                have hzn : ¬ 0 ≤ z := by omega
                have HS2 := Lib.hid (HS.out (by rw [HFI.out, decide_eq_true (HZN.out.1 hz)]; rfl))
                go_wp2
                go_roundw
                case rel => exact ⟨k + 1, by omega, by go_num, HBW4.out, HS2.out⟩
                case measure => simp [intOf]; omega
              · have hzd : decide (0 ≤ z) = true := decide_eq_true (by omega)
                have hzn : 0 ≤ z := by omega
                have HF : Hid (res = false) := HNO.out (by rw [HFI.out, decide_eq_false (fun x => hz (HZN.out.2 x))]; rfl)
                go_wp2
                go_ret
                exact ⟨ret_bool HF.out.symm, HB4w.out⟩
          · have hd1 : decide (va < vb) = false := decide_eq_false hab
            have hd2 : decide (vb ≤ va) = true := decide_eq_true (by omega)
            rw [hd1] at HFI
            have HF : Hid (res = false) := HNO.out (by rw [HFI.out]; rfl)
            clear hd1 hab
            go_wp2
            go_ret
            exact ⟨ret_bool HF.out.symm, HB3.out⟩
    · have hke : k = n := by omega
      subst hke
      have HF : Hid (res = true) := by show _ = _; rw [← HRES.out]; exact (linksB_all m ls).2 (by rw [HN.out]; exact HC.out)
      go_wp2
      go_ret
      exact ⟨ret_bool HF.out.symm, HB0.out⟩
end Go.Proofs.YtkmebilhbjcfpaaGreat

namespace Go.Proofs.YtkmebilhbjcfpaaGreat
open Go.RowKit
set_option linter.unusedVariables false

/-- Does a feed suit the writer whose blocks are bs0? -/
def fromB (sec : Int) (bs0 : List ByteArray) (f : FD) : Bool := decide (f.l ≤ bs0.length) && (headB sec bs0 f && sameB f bs0)
theorem nth_leafT (bs : List ByteArray) (k : Nat) (h : k < bs.length) : nth (leafL bs) k = textOr (sth bs k) := by
  unfold nth sth leafL
  rw [List.getD_eq_getElem?_getD, List.getD_eq_getElem?_getD, List.getElem?_map, List.getElem?_eq_getElem h]
  rfl

set_option maxHeartbeats 8000000 in
set_option maxRecDepth 100000 in
theorem fromW_any (sec : Int) (b0 : List ByteArray) (g0 c0 : Nat) (H : FH) (w : World) (hI : IntsAt w w.heap.size (some ⟨g0, 0, none⟩) (leafL b0)) (hc0 : b0.length ≤ c0) (hc1 : c0 ≤ maxLen) (h16 : b0.length ≤ 16) (hH : FhAt w w.heap.size H)
    (hl1 : (H.f.bs.length : Int) = H.f.l) (hl2 : (H.f.hs.length : Int) = H.f.l) :
    Calls Tryz.prog 79 #[.int .i64 sec, .slice (some ⟨g0, 0, none⟩) b0.length c0, fhV H] w fun e w' => e = .returned (.bool (fromB sec b0 H.f)) ∧ Below w.heap.size w w' := by
  obtain ⟨⟨p, l, d, s, bs, hs1⟩, A1, c1, A2, c2⟩ := H
  dsimp only at hl1 hl2
  have hle1 := hH.le1
  have hle2 := hH.le2
  dsimp only at hle1 hle2
  unfold maxLen at hc1 hle1 hle2
  obtain ⟨k, HK1⟩ : ∃ x, Hid (bs.length = x) := ⟨_, rfl⟩
  have hnh : hs1.length = k := by rw [← HK1.out]; omega
  have HNH := Lib.hid hnh
  rw [HK1.out] at hl1 hle1
  rw [hnh] at hle2
  subst hl1
  clear hnh hl2
  have HFE := Lib.hid hH.feed
  have HI := Lib.hid hI
  obtain ⟨m, HM0⟩ : ∃ x, Hid (b0.length = x) := ⟨_, rfl⟩
  rw [HM0.out] at hc0 h16 ⊢
  obtain ⟨res, HR2⟩ : ∃ x, Hid (fromB sec b0 ⟨p, (k : Int), d, s, bs, hs1⟩ = x) := ⟨_, rfl⟩
  obtain ⟨sm, HSM⟩ : ∃ x, Hid (sameB ⟨p, (k : Int), d, s, bs, hs1⟩ b0 = x) := ⟨_, rfl⟩
  obtain ⟨hd, HHD⟩ : ∃ x, Hid (headB sec b0 ⟨p, (k : Int), d, s, bs, hs1⟩ = x) := ⟨_, rfl⟩
  have HRES : Hid (res = (decide ((k : Int) ≤ (m : Int)) && (hd && sm))) := by rw [← HR2.out, ← HSM.out, ← HHD.out, ← HM0.out]; rfl
  unfold fhV
  dsimp only
  rw [HR2.out, HK1.out, HNH.out]
  clear hH hI
  obtain ⟨V0, HV0⟩ : ∃ W, Hid (w.alloc (.cells #[.int .i64 p, .int .i64 (k : Int), .int .i64 d, .int .i64 s, .slice A1 k c1, .slice A2 k c2] 56) = W) := ⟨_, rfl⟩
  have KP : Hid (Blk V0 w.heap.size 56 #[.int .i64 p, .int .i64 (k : Int), .int .i64 d, .int .i64 s, .slice A1 k c1, .slice A2 k c2]) := by rw [← HV0.out]; exact Blk.new w _ _
  have HB : Hid (Below w.heap.size w V0) := by rw [← HV0.out]; exact (Below.refl _ w).alloc (Nat.le_refl _) _
  obtain ⟨p0, p1, p2, p3, p4, p5⟩ := run_cells KP.out
  have hz0 : w.heap.size < V0.heap.size := KP.out.lt
  go_enter Tryz.func79, Tryz.ntmps79
  go_upto_region 1 with fail
  rw [HV0.out]
  by_cases hkm : (k : Int) ≤ (m : Int)
  · have hkd : decide ((k : Int) ≤ (m : Int)) = true := decide_eq_true hkm
    have hkg : ¬ (m : Int) < (k : Int) := by omega
    rw [hkd] at HRES
    have hkc : (k : Int) ≤ (c0 : Int) := by omega
    have hk0 : (0 : Int) ≤ (k : Int) := by omega
    have HLL : Hid ((leafL (b0.take k)).length = k) := by have := HM0.out; show _ = _; rw [leafL_length, List.length_take]; omega
    have HTK : Hid (leafL (b0.take k) = (leafL b0).take k) := by show _ = _; unfold leafL; rw [List.map_take]
    obtain ⟨ml, HML⟩ : ∃ x, Hid (madeL sec (leafL (b0.take k)) = x) := ⟨_, rfl⟩
    obtain ⟨md, HMD⟩ : ∃ x, Hid (madeD sec (leafL (b0.take k)) = x) := ⟨_, rfl⟩
    obtain ⟨ms, HMS⟩ : ∃ x, Hid (madeS sec (leafL (b0.take k)) = x) := ⟨_, rfl⟩
    obtain ⟨mo, HMO⟩ : ∃ x, Hid (madeOk sec (leafL (b0.take k)) = x) := ⟨_, rfl⟩
    have CM : Hid (Calls Tryz.prog 125 #[.int .i64 sec, .slice (some ⟨g0, 0, none⟩) k c0] V0 fun e w' => e = .returned (.tuple #[headV ml md ms, .bool mo]) ∧ Below V0.heap.size V0 w') := by
      have hi2 := ((HI.out.belowS HB.out).first k)
      rw [← HTK.out] at hi2
      have := make_any sec (leafL (b0.take k)) g0 0 c0 V0 hi2 (by rw [HLL.out]; omega) (by unfold maxLen; omega)
      rw [HLL.out, HML.out, HMD.out, HMS.out, HMO.out] at this
      exact this
    have HHV : Hid (hd = (decide ((k : Int) = 0) || (decide ((k : Int) = ml) && (decide (d = md) && decide (s = ms))))) := by
      rw [← HHD.out, ← HML.out, ← HMD.out, ← HMS.out]
      show _ = _
      unfold headB
      simp only [Int.toNat_natCast]
    go_wp2_with fail
    refine CM.out.mono ?_
    rintro e w1 ⟨rfl, hb1⟩
    have HB1 : Hid (Below w.heap.size w w1) := HB.out.trans (hb1.mono (by omega))
    have KP1 := Lib.hid (KP.out.below hb1 hz0)
    have hz1 : w.heap.size < w1.heap.size := KP1.out.lt
    clear hb1 p0 p1 p2 p3 p4 p5 CM
    obtain ⟨W, HW⟩ : ∃ U, Hid (w1.alloc (.cells #[.int .i64 ml, .int .i64 md, .int .i64 ms] 52) = U) := ⟨_, rfl⟩
    have KG : Hid (Blk W w1.heap.size 52 #[.int .i64 ml, .int .i64 md, .int .i64 ms]) := by rw [← HW.out]; exact Blk.new _ _ _
    have KP2 : Hid (Blk W w.heap.size 56 #[.int .i64 p, .int .i64 (k : Int), .int .i64 d, .int .i64 s, .slice A1 k c1, .slice A2 k c2]) := by rw [← HW.out]; exact KP1.out.alloc _
    have HBW : Hid (Below w.heap.size w W) := by rw [← HW.out]; exact HB1.out.alloc (by omega) _
    obtain ⟨p0, p1, p2, p3, p4, p5⟩ := run_cells KP2.out
    have q0 : W.cell? ⟨w1.heap.size, 0, none⟩ = some (.int .i64 ml) := KG.out.cell 0
    have q1 : W.cell? ⟨w1.heap.size, 1, none⟩ = some (.int .i64 md) := KG.out.cell 1
    have q2 : W.cell? ⟨w1.heap.size, 2, none⟩ = some (.int .i64 ms) := KG.out.cell 2
    go_upto_region 5 with fail
    rw [HW.out]
    by_cases hkz : k = 0
    · subst hkz
      have HF : Hid (res = true) := by
        show _ = _
        rw [HRES.out, HHV.out, ← HSM.out, (sameB_iff _ _).2 (fun i hi => absurd hi (by show ¬ i < bs.length; rw [HK1.out]; omega))]
        rfl
      go_wp2
      refine wp_loop_rounds 1 ?_
      rw [rounds_succ]
      go_wp2
      go_ret
      exact ⟨ret_bool HF.out.symm, HBW.out⟩
    · have hkp : (0 : Int) < (k : Int) := by omega
      have HKZ : Hid (decide ((k : Int) = 0) = false) := decide_eq_false (by omega)
      rw [HKZ.out] at HHV
      by_cases e1 : (k : Int) = ml
      · by_cases e2 : d = md
        · by_cases e3 : s = ms
          · have HT : Hid (hd = true) := by show _ = _; rw [HHV.out, decide_eq_true e1, decide_eq_true e2, decide_eq_true e3]; rfl
            rw [HT.out] at HRES
            have HRS : Hid (res = sm) := by show _ = _; rw [HRES.out]; rfl
            subst e2 e3
            have b1 : ((k : Int) == ml) = true := beq_iff_eq.2 e1
            clear e1
            go_wp2
            go_loopw [38] (fun i wr => ∃ j : Nat, j ≤ k ∧ i = .int .i64 (j : Int) ∧ Hid (∃ q, wr = W.drewN q) ∧ Hid (∀ i, i < j → bth hs1 i = true → textOr (sth bs i) = textOr (sth b0 i))) (fun i _ => k - (intOf i).toNat)
            case atStart => exact ⟨0, Nat.zero_le _, rfl, ⟨0, rfl⟩, fun j hj => absurd hj (Nat.not_lt_zero _)⟩
            case round =>
              obtain ⟨j, hj, rfl, HQ, HC⟩ := hrel
              have HQN : Hid (∀ x, ∃ q, wr.drewN x = W.drewN q) := fun x => by obtain ⟨q, e⟩ := HQ.out; subst e; exact ⟨q + x, World.drewN_drewN _ _ _⟩
              have HBr : Hid (Below w.heap.size w wr) := by obtain ⟨q, e⟩ := HQ.out; subst e; exact below_drewN HBW.out q
              have CEL : Hid (∀ x : Addr, wr.cell? x = W.cell? x) := fun x => by obtain ⟨q, e⟩ := HQ.out; subst e; rfl
              have z5 := (CEL.out ⟨w.heap.size, 5, none⟩).trans p5
              have hj0 : (0 : Int) ≤ (j : Int) := by omega
              by_cases hjk : j < k
              · have hji : (j : Int) < (k : Int) := by omega
                have hjm : (j : Int) < (m : Int) := by omega
                obtain ⟨b1', o1, e1, _, hc1⟩ := (HFE.out.belowS HBW.out).strs (by rw [HK1.out]; omega)
                have t1 := (CEL.out ⟨b1', o1 + j, none⟩).trans (hc1 j (by rw [HK1.out]; omega))
                obtain ⟨b2, o2, e2, _, hc2⟩ := (HFE.out.belowS HBW.out).bits (by rw [HNH.out]; omega)
                have t2 := (CEL.out ⟨b2, o2 + j, none⟩).trans (hc2 j (by rw [HNH.out]; omega))
                obtain ⟨b3, o3, e3, _, hc3⟩ := (HI.out.belowS HBW.out) (by rw [leafL_length, HM0.out]; omega)
                have t3 := (CEL.out ⟨b3, o3 + j, none⟩).trans (hc3 j (by rw [leafL_length, HM0.out]; omega))
                rw [nth_leafT b0 j (by rw [HM0.out]; omega)] at t3
                injection e3 with e3
                injection e3 with e31 e32
                subst e31 e32
                have HFT := HFE.out.fit j
                obtain ⟨v, HV⟩ : ∃ x, Hid (bth hs1 j = x) := ⟨_, rfl⟩
                obtain ⟨s1, HS1⟩ : ∃ x, Hid (sth bs j = x) := ⟨_, rfl⟩
                obtain ⟨z3, HZ3⟩ : ∃ x, Hid (textOr (sth b0 j) = x) := ⟨_, rfl⟩
                rw [HS1.out] at t1 HFT
                rw [HV.out] at t2
                rw [HZ3.out, Nat.zero_add] at t3
                rw [e2] at z5
                have T1 := Lib.hid (fun U => text_any s1 U HFT)
                obtain ⟨z1, HZ1⟩ : ∃ x, Hid (textOr s1 = x) := ⟨_, rfl⟩
                rw [HZ1.out] at T1
                have HS : Hid ((v = true → z1 = z3) → ∀ i, i < j + 1 → bth hs1 i = true → textOr (sth bs i) = textOr (sth b0 i)) := fun x i hi hb => by
                  rcases Nat.lt_or_ge i j with e | e
                  · exact HC.out i e hb
                  · have : i = j := by omega
                    subst this
                    rw [HS1.out, HZ1.out, HZ3.out]
                    exact x (by rw [← HV.out]; exact hb)
                have HNO : Hid (v = true → z1 ≠ z3 → res = false) := fun x1 x2 => by
                  rw [HRS.out, ← HSM.out, Bool.eq_false_iff]
                  intro e
                  refine x2 ?_
                  have := (sameB_iff _ _).1 e j (by show j < bs.length; rw [HK1.out]; exact hjk) (HV.out.trans x1)
                  rw [← HZ1.out, ← HZ3.out, ← HS1.out]
                  exact this
                subst e1
                clear hc1 hc2 hc3 HFT e2
                cases v with
                | false =>
                  have HS2 := Lib.hid (HS.out (fun x => by cases x))
                  go_wp2_with fail
                  go_quiet (fail)
                  go_wp2
                  go_roundw
                  case rel => exact ⟨j + 1, by omega, by go_num, HQN.out _, HS2.out⟩
                  case measure => simp [intOf]; omega
                | true =>
                  by_cases hz : z1 = z3
                  · have HS2 := Lib.hid (HS.out (fun _ => hz))
                    have hzb : (z1 != z3) = false := by rw [hz]; simp
                    clear hz
                    go_wp2_with fail
                    go_quiet ((go_at_call 126; with_reducible exact Calls.quiet_of_same ((T1.out _).mono fun e w' h => ⟨h.1, h.2.symm⟩)))
                    go_wp2
                    go_roundw
                    case rel => exact ⟨j + 1, by omega, by go_num, HQN.out _, HS2.out⟩
                    case measure => simp [intOf]; omega
                  · have hzb : (z1 != z3) = true := bne_iff_ne.2 hz
                    have HF : Hid (res = false) := HNO.out rfl hz
                    clear hz
                    go_wp2_with fail
                    go_quiet ((go_at_call 126; with_reducible exact Calls.quiet_of_same ((T1.out _).mono fun e w' h => ⟨h.1, h.2.symm⟩)))
                    go_wp2
                    go_ret
                    exact ⟨ret_bool HF.out.symm, below_drewN HBr.out _⟩
              · have hje : j = k := by omega
                subst hje
                have HF : Hid (res = true) := by
                  show _ = _
                  rw [HRS.out, ← HSM.out]
                  exact (sameB_iff _ _).2 fun i hi hb => HC.out i (by have : i < bs.length := hi; rwa [HK1.out] at this) hb
                go_wp2
                go_ret
                exact ⟨ret_bool HF.out.symm, HBr.out⟩
          · have HF : Hid (res = false) := by show _ = _; rw [HRES.out, HHV.out, decide_eq_false e3]; simp
            have b1 : ((k : Int) == ml) = true := beq_iff_eq.2 e1
            have b2 : (d == md) = true := beq_iff_eq.2 e2
            have b3 : (s == ms) = false := beq_eq_false_iff_ne.2 e3
            clear e1 e2 e3
            go_wp2
            go_ret
            exact ⟨ret_bool HF.out.symm, HBW.out⟩
        · have HF : Hid (res = false) := by show _ = _; rw [HRES.out, HHV.out, decide_eq_false e2]; simp
          have b1 : ((k : Int) == ml) = true := beq_iff_eq.2 e1
          have b2 : (d == md) = false := beq_eq_false_iff_ne.2 e2
          clear e1 e2
          go_wp2
          go_ret
          exact ⟨ret_bool HF.out.symm, HBW.out⟩
      · have HF : Hid (res = false) := by show _ = _; rw [HRES.out, HHV.out, decide_eq_false e1]; simp
        have b1 : ((k : Int) == ml) = false := beq_eq_false_iff_ne.2 e1
        clear e1
        go_wp2
        go_ret
        exact ⟨ret_bool HF.out.symm, HBW.out⟩
  · have hkd : decide ((k : Int) ≤ (m : Int)) = false := decide_eq_false hkm
    have hkg : (m : Int) < (k : Int) := by omega
    rw [hkd] at HRES
    have HF : Hid (res = false) := by show _ = _; rw [HRES.out]; rfl
    go_wp2
    go_ret
    exact ⟨ret_bool HF.out.symm, HB.out⟩
end Go.Proofs.YtkmebilhbjcfpaaGreat

namespace Go.Proofs.YtkmebilhbjcfpaaGreat
open Go.RowKit
set_option linter.unusedVariables false

/-- Does one of the first n have it? -/
def anyN (n : Nat) (P : Nat → Bool) : Bool := (List.range n).any P
theorem anyN_yes {n k : Nat} {P : Nat → Bool} (h : k < n) (hk : P k = true) : anyN n P = true := by
  unfold anyN; rw [List.any_eq_true]; exact ⟨k, List.mem_range.2 h, hk⟩
theorem anyN_no {n : Nat} {P : Nat → Bool} (h : ∀ k, k < n → P k = false) : anyN n P = false := by
  unfold anyN; rw [Bool.eq_false_iff]; intro e
  rw [List.any_eq_true] at e
  obtain ⟨k, hk, e⟩ := e
  rw [h k (List.mem_range.1 hk)] at e
  cases e
theorem anyN_all {n : Nat} {P Q : Nat → Bool} (h : ∀ k, k < n → P k = !Q k) : (!anyN n P) = true ↔ ∀ k, k < n → Q k = true := by
  constructor
  · intro e k hk
    cases hq : Q k with
    | true => rfl
    | false =>
      have := anyN_yes hk ((h k hk).trans (by rw [hq]; rfl))
      rw [this] at e
      cases e
  · intro e
    rw [anyN_no fun k hk => by rw [h k hk, e k hk]; rfl]
    rfl

set_option maxHeartbeats 3000000 in
set_option maxRecDepth 100000 in
theorem feedIndex_any (A : Option Addr) (cap : Nat) (hs : List FH) (g1 g2 : Nat) (P : Nat → Bool) (w : World) (hR : RowAt FK w w.heap.size A hs) (hm : hs.length ≤ maxLen)
    (HP : ∀ k, k < hs.length → ∀ U, Below w.heap.size w U → Calls Tryz.prog 78 #[fhV (fhth hs k), .pointer (some ⟨g1, 0, none⟩), .pointer (some ⟨g2, 0, none⟩)] U fun e w' => e = .returned (.bool (P k)) ∧ Below U.heap.size U w') :
    Calls Tryz.prog 124 #[.slice A hs.length cap, .func (.func 78) #[] #[.pointer (some ⟨g1, 0, none⟩), .pointer (some ⟨g2, 0, none⟩)]] w fun e w' => ∃ r : Int, e = .returned (.int .i64 r) ∧ decide (0 ≤ r) = anyN hs.length P ∧ Below w.heap.size w w' := by
  have HR := Lib.hid hR
  have HPP := Lib.hid HP
  unfold maxLen at hm
  obtain ⟨n, HN⟩ : ∃ n, Hid (hs.length = n) := ⟨_, rfl⟩
  rw [HN.out] at hm HPP ⊢
  clear hR HP
  obtain ⟨res, HRES⟩ : ∃ x, Hid (anyN n P = x) := ⟨_, rfl⟩
  rw [HRES.out]
  have eg : ∀ args w, (callFunc 78 args).run Tryz.prog w = .ok (.enter 78 args) w := enters_of Tryz.func78 (by kernel_rfl) rfl
  go_enter Tryz.func124, Tryz.ntmps124
  go_wp2
  go_loopw [5, 8] (fun _ i w' => ∃ k : Nat, k ≤ n ∧ i = .int .i64 k ∧ Hid (Below w.heap.size w w') ∧ Hid (∀ j, j < k → P j = false)) (fun _ i _ => n - (intOf i).toNat)
  case atStart => exact ⟨0, Nat.zero_le _, rfl, Below.refl _ _, fun j hj => absurd hj (Nat.not_lt_zero _)⟩
  case round =>
    obtain ⟨k, hk, rfl, HB, HA⟩ := hrel
    by_cases hlt : k < n
    · have hkz : k < hs.length := by rw [HN.out]; exact hlt
      have hj := HR.out.belowS HB.out
      obtain ⟨b, o, rfl⟩ := hj.some_ (by omega)
      obtain ⟨c0, c1, c2, c3, c4, c5⟩ := feed_cells6 hj k hkz
      have C := Lib.hid (HPP.out k hlt wr HB.out)
      obtain ⟨x, HX⟩ : ∃ x, fhth hs k = x := ⟨_, rfl⟩
      rw [HX] at C c0 c1 c2 c3 c4 c5
      obtain ⟨⟨xp, xl, xd, xs, xbs, xhs⟩, xa1, xc1, xa2, xc2⟩ := x
      unfold fhV at C
      dsimp only at C c0 c1 c2 c3 c4 c5
      obtain ⟨n1, HN1⟩ : ∃ x, xbs.length = x := ⟨_, rfl⟩
      obtain ⟨n2, HN2⟩ : ∃ x, xhs.length = x := ⟨_, rfl⟩
      rw [HN1] at C c4
      rw [HN2] at C c5
      clear HN1 HN2
      have hki : (k : Int) < (n : Int) := by omega
      clear hkz hj HX
      cases hq : P k with
      | false =>
        rw [hq] at C
        have HS : Hid (∀ j, j < k + 1 → P j = false) := fun j hj => by
          by_cases e : j = k
          · subst e; exact hq
          · exact HA.out j (by omega)
        clear hq
        go_wp2_with (go_at_fn 78; refine C.out.mono ?_; rintro e w' ⟨rfl, hb'⟩)
        have HB2 : Hid (Below w.heap.size w w') := HB.out.trans (hb'.mono HB.out.size)
        clear hb'
        go_wp2
        go_roundw
        case rel => exact ⟨k + 1, by omega, by go_num, HB2, HS⟩
        case measure => simp [intOf]; omega
      | true =>
        rw [hq] at C
        have HF : Hid (res = true) := by show _ = _; rw [← HRES.out]; exact anyN_yes hlt hq
        clear hq
        go_wp2_with (go_at_fn 78; refine C.out.mono ?_; rintro e w' ⟨rfl, hb'⟩)
        have HB2 : Hid (Below w.heap.size w w') := HB.out.trans (hb'.mono HB.out.size)
        clear hb'
        go_wp2
        go_ret
        exact ⟨(k : Int), rfl, by rw [HF.out]; simp, HB2.out⟩
    · have hkn : k = n := by omega
      subst hkn
      have HF : Hid (res = false) := by show _ = _; rw [← HRES.out]; exact anyN_no HA.out
      go_wp2
      go_ret
      exact ⟨-1, rfl, by rw [HF.out]; decide, HB.out⟩

set_option maxHeartbeats 1000000 in
theorem feedAny_any (A : Option Addr) (cap : Nat) (hs : List FH) (g1 g2 : Nat) (P : Nat → Bool) (w : World) (hR : RowAt FK w w.heap.size A hs) (hm : hs.length ≤ maxLen)
    (HP : ∀ k, k < hs.length → ∀ U, Below w.heap.size w U → Calls Tryz.prog 78 #[fhV (fhth hs k), .pointer (some ⟨g1, 0, none⟩), .pointer (some ⟨g2, 0, none⟩)] U fun e w' => e = .returned (.bool (P k)) ∧ Below U.heap.size U w') :
    Calls Tryz.prog 77 #[.slice A hs.length cap, .func (.func 78) #[] #[.pointer (some ⟨g1, 0, none⟩), .pointer (some ⟨g2, 0, none⟩)]] w fun e w' => e = .returned (.bool (anyN hs.length P)) ∧ Below w.heap.size w w' := by
  have C := Lib.hid (feedIndex_any A cap hs g1 g2 P w hR hm HP)
  clear hR hm HP
  go_enter Tryz.func77, Tryz.ntmps77
  go_wp2_with fail
  refine C.out.mono ?_
  rintro e w1 ⟨r, rfl, hr, hb⟩
  have HR := Lib.hid hr
  have HB := Lib.hid hb
  clear hr hb
  go_wp2
  go_ret
  exact ⟨ret_bool HR.out, HB.out⟩

set_option maxHeartbeats 3000000 in
set_option maxRecDepth 100000 in
theorem asksIndex_any (A : Option Addr) (cap : Nat) (hs : List AH) (P : Nat → Bool) (w : World) (hR : RowAt HK2 w w.heap.size A hs) (hm : hs.length ≤ maxLen)
    (HP : ∀ k, k < hs.length → ∀ U, Below w.heap.size w U → Calls Tryz.prog 83 #[ahV (ahth hs k)] U fun e w' => e = .returned (.bool (P k)) ∧ Below U.heap.size U w') :
    Calls Tryz.prog 129 #[.slice A hs.length cap, .func (.func 83) #[] #[]] w fun e w' => ∃ r : Int, e = .returned (.int .i64 r) ∧ decide (0 ≤ r) = anyN hs.length P ∧ Below w.heap.size w w' := by
  have HR := Lib.hid hR
  have HPP := Lib.hid HP
  unfold maxLen at hm
  obtain ⟨n, HN⟩ : ∃ n, Hid (hs.length = n) := ⟨_, rfl⟩
  rw [HN.out] at hm HPP ⊢
  clear hR HP
  obtain ⟨res, HRES⟩ : ∃ x, Hid (anyN n P = x) := ⟨_, rfl⟩
  rw [HRES.out]
  have eg : ∀ args w, (callFunc 83 args).run Tryz.prog w = .ok (.enter 83 args) w := enters_of Tryz.func83 (by kernel_rfl) rfl
  go_enter Tryz.func129, Tryz.ntmps129
  go_wp2
  go_loopw [5, 8] (fun _ i w' => ∃ k : Nat, k ≤ n ∧ i = .int .i64 k ∧ Hid (Below w.heap.size w w') ∧ Hid (∀ j, j < k → P j = false)) (fun _ i _ => n - (intOf i).toNat)
  case atStart => exact ⟨0, Nat.zero_le _, rfl, Below.refl _ _, fun j hj => absurd hj (Nat.not_lt_zero _)⟩
  case round =>
    obtain ⟨k, hk, rfl, HB, HA⟩ := hrel
    by_cases hlt : k < n
    · have hkz : k < hs.length := by rw [HN.out]; exact hlt
      have hj := HR.out.belowS HB.out
      obtain ⟨b, o, rfl⟩ := hj.some_ (by omega)
      have c0 := asks_cell1 hj k hkz
      have C := Lib.hid (HPP.out k hlt wr HB.out)
      obtain ⟨x, HX⟩ : ∃ x, ahth hs k = x := ⟨_, rfl⟩
      rw [HX] at C c0
      obtain ⟨xa, xc, xxs⟩ := x
      unfold ahV at C
      dsimp only at C c0
      obtain ⟨n1, HN1⟩ : ∃ x, xxs.length = x := ⟨_, rfl⟩
      rw [HN1] at C c0
      clear HN1
      have hki : (k : Int) < (n : Int) := by omega
      clear hkz hj HX
      cases hq : P k with
      | false =>
        rw [hq] at C
        have HS : Hid (∀ j, j < k + 1 → P j = false) := fun j hj => by
          by_cases e : j = k
          · subst e; exact hq
          · exact HA.out j (by omega)
        clear hq
        go_wp2_with (go_at_fn 83; refine C.out.mono ?_; rintro e w' ⟨rfl, hb'⟩)
        have HB2 : Hid (Below w.heap.size w w') := HB.out.trans (hb'.mono HB.out.size)
        clear hb'
        go_wp2
        go_roundw
        case rel => exact ⟨k + 1, by omega, by go_num, HB2, HS⟩
        case measure => simp [intOf]; omega
      | true =>
        rw [hq] at C
        have HF : Hid (res = true) := by show _ = _; rw [← HRES.out]; exact anyN_yes hlt hq
        clear hq
        go_wp2_with (go_at_fn 83; refine C.out.mono ?_; rintro e w' ⟨rfl, hb'⟩)
        have HB2 : Hid (Below w.heap.size w w') := HB.out.trans (hb'.mono HB.out.size)
        clear hb'
        go_wp2
        go_ret
        exact ⟨(k : Int), rfl, by rw [HF.out]; simp, HB2.out⟩
    · have hkn : k = n := by omega
      subst hkn
      have HF : Hid (res = false) := by show _ = _; rw [← HRES.out]; exact anyN_no HA.out
      go_wp2
      go_ret
      exact ⟨-1, rfl, by rw [HF.out]; decide, HB.out⟩

set_option maxHeartbeats 1000000 in
theorem asksAny_any (A : Option Addr) (cap : Nat) (hs : List AH) (P : Nat → Bool) (w : World) (hR : RowAt HK2 w w.heap.size A hs) (hm : hs.length ≤ maxLen)
    (HP : ∀ k, k < hs.length → ∀ U, Below w.heap.size w U → Calls Tryz.prog 83 #[ahV (ahth hs k)] U fun e w' => e = .returned (.bool (P k)) ∧ Below U.heap.size U w') :
    Calls Tryz.prog 82 #[.slice A hs.length cap, .func (.func 83) #[] #[]] w fun e w' => e = .returned (.bool (anyN hs.length P)) ∧ Below w.heap.size w w' := by
  have C := Lib.hid (asksIndex_any A cap hs P w hR hm HP)
  clear hR hm HP
  go_enter Tryz.func82, Tryz.ntmps82
  go_wp2_with fail
  refine C.out.mono ?_
  rintro e w1 ⟨r, rfl, hr, hb⟩
  have HR := Lib.hid hr
  have HB := Lib.hid hb
  clear hr hb
  go_wp2
  go_ret
  exact ⟨ret_bool HR.out, HB.out⟩

set_option maxHeartbeats 3000000 in
set_option maxRecDepth 100000 in
theorem pieceIndex_any (A : Option Addr) (cap : Nat) (hs : List QH) (g1 g2 : Nat) (P : Nat → Bool) (w : World) (hR : RowAt QK w w.heap.size A hs) (hm : hs.length ≤ maxLen)
    (HP : ∀ k, k < hs.length → ∀ U, Below w.heap.size w U → Calls Tryz.prog 86 #[qhV (qhth hs k), .pointer (some ⟨g1, 0, none⟩), .pointer (some ⟨g2, 0, none⟩)] U fun e w' => e = .returned (.bool (P k)) ∧ Below U.heap.size U w') :
    Calls Tryz.prog 131 #[.slice A hs.length cap, .func (.func 86) #[] #[.pointer (some ⟨g1, 0, none⟩), .pointer (some ⟨g2, 0, none⟩)]] w fun e w' => ∃ r : Int, e = .returned (.int .i64 r) ∧ decide (0 ≤ r) = anyN hs.length P ∧ Below w.heap.size w w' := by
  have HR := Lib.hid hR
  have HPP := Lib.hid HP
  unfold maxLen at hm
  obtain ⟨n, HN⟩ : ∃ n, Hid (hs.length = n) := ⟨_, rfl⟩
  rw [HN.out] at hm HPP ⊢
  clear hR HP
  obtain ⟨res, HRES⟩ : ∃ x, Hid (anyN n P = x) := ⟨_, rfl⟩
  rw [HRES.out]
  have eg : ∀ args w, (callFunc 86 args).run Tryz.prog w = .ok (.enter 86 args) w := enters_of Tryz.func86 (by kernel_rfl) rfl
  go_enter Tryz.func131, Tryz.ntmps131
  go_wp2
  go_loopw [5, 8] (fun _ i w' => ∃ k : Nat, k ≤ n ∧ i = .int .i64 k ∧ Hid (Below w.heap.size w w') ∧ Hid (∀ j, j < k → P j = false)) (fun _ i _ => n - (intOf i).toNat)
  case atStart => exact ⟨0, Nat.zero_le _, rfl, Below.refl _ _, fun j hj => absurd hj (Nat.not_lt_zero _)⟩
  case round =>
    obtain ⟨k, hk, rfl, HB, HA⟩ := hrel
    by_cases hlt : k < n
    · have hkz : k < hs.length := by rw [HN.out]; exact hlt
      have hj := HR.out.belowS HB.out
      obtain ⟨b, o, rfl⟩ := hj.some_ (by omega)
      obtain ⟨c0, c1, c2, c3, c4, c5⟩ := piece_cells6 hj k hkz
      have C := Lib.hid (HPP.out k hlt wr HB.out)
      obtain ⟨x, HX⟩ : ∃ x, qhth hs k = x := ⟨_, rfl⟩
      rw [HX] at C c0 c1 c2 c3 c4 c5
      obtain ⟨⟨xf, xt, xl, xi, xtx, xpf⟩, xa, xc⟩ := x
      unfold qhV at C
      dsimp only at C c0 c1 c2 c3 c4 c5
      obtain ⟨n1, HN1⟩ : ∃ x, xpf.length = x := ⟨_, rfl⟩
      rw [HN1] at C c5
      clear HN1
      have hki : (k : Int) < (n : Int) := by omega
      clear hkz hj HX
      cases hq : P k with
      | false =>
        rw [hq] at C
        have HS : Hid (∀ j, j < k + 1 → P j = false) := fun j hj => by
          by_cases e : j = k
          · subst e; exact hq
          · exact HA.out j (by omega)
        clear hq
        go_wp2_with (go_at_fn 86; refine C.out.mono ?_; rintro e w' ⟨rfl, hb'⟩)
        have HB2 : Hid (Below w.heap.size w w') := HB.out.trans (hb'.mono HB.out.size)
        clear hb'
        go_wp2
        go_roundw
        case rel => exact ⟨k + 1, by omega, by go_num, HB2, HS⟩
        case measure => simp [intOf]; omega
      | true =>
        rw [hq] at C
        have HF : Hid (res = true) := by show _ = _; rw [← HRES.out]; exact anyN_yes hlt hq
        clear hq
        go_wp2_with (go_at_fn 86; refine C.out.mono ?_; rintro e w' ⟨rfl, hb'⟩)
        have HB2 : Hid (Below w.heap.size w w') := HB.out.trans (hb'.mono HB.out.size)
        clear hb'
        go_wp2
        go_ret
        exact ⟨(k : Int), rfl, by rw [HF.out]; simp, HB2.out⟩
    · have hkn : k = n := by omega
      subst hkn
      have HF : Hid (res = false) := by show _ = _; rw [← HRES.out]; exact anyN_no HA.out
      go_wp2
      go_ret
      exact ⟨-1, rfl, by rw [HF.out]; decide, HB.out⟩

set_option maxHeartbeats 1000000 in
theorem pieceAny_any (A : Option Addr) (cap : Nat) (hs : List QH) (g1 g2 : Nat) (P : Nat → Bool) (w : World) (hR : RowAt QK w w.heap.size A hs) (hm : hs.length ≤ maxLen)
    (HP : ∀ k, k < hs.length → ∀ U, Below w.heap.size w U → Calls Tryz.prog 86 #[qhV (qhth hs k), .pointer (some ⟨g1, 0, none⟩), .pointer (some ⟨g2, 0, none⟩)] U fun e w' => e = .returned (.bool (P k)) ∧ Below U.heap.size U w') :
    Calls Tryz.prog 85 #[.slice A hs.length cap, .func (.func 86) #[] #[.pointer (some ⟨g1, 0, none⟩), .pointer (some ⟨g2, 0, none⟩)]] w fun e w' => e = .returned (.bool (anyN hs.length P)) ∧ Below w.heap.size w w' := by
  have C := Lib.hid (pieceIndex_any A cap hs g1 g2 P w hR hm HP)
  clear hR hm HP
  go_enter Tryz.func85, Tryz.ntmps85
  go_wp2_with fail
  refine C.out.mono ?_
  rintro e w1 ⟨r, rfl, hr, hb⟩
  have HR := Lib.hid hr
  have HB := Lib.hid hb
  clear hr hb
  go_wp2
  go_ret
  exact ⟨ret_bool HR.out, HB.out⟩
end Go.Proofs.YtkmebilhbjcfpaaGreat
