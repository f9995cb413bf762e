/- Contracts of numbersValid, inRun and writerLeaves: numbers of a run, its peers, and the digests of the writer's blocks. Conditions: as each statement says. -/
import Derived.Test.YtkmebilhbjcfpaaWorldMath
import Derived.Test.YtkmebilhbjcfpaaWorldWords
import Derived.Test.YtkmebilhbjcfpaaBaseH
import Derived.Test.YtkmebilhbjcfpaaLeaves2
import Derived.Deep.DeepCutAuto
import Derived.BigQuiet
import Derived.Deep.QuietTactic
import Derived.Lib.Hide
namespace Go.Proofs.Ytkmebilhbjcfpaa
open Go.RowKit
set_option linter.unusedVariables false

theorem newOk_no {s n b : Int} (h : ¬ ((1 ≤ s ∧ s < 997) ∧ (1 ≤ n ∧ n ≤ 6) ∧ (b = -1 ∨ (1 ≤ b ∧ b ≤ n - 1)))) : newOk s n b = false := by
  rw [Bool.eq_false_iff]; exact fun e => h ((newOk_iff _ _ _).1 e)
set_option maxHeartbeats 2000000 in
theorem nums_any (s n b : Int) (w : World) :
    Calls Try.prog 17 #[.int .i64 s, .int .i64 n, .int .i64 b] w fun e w' => e = .returned (.bool (newOk s n b)) ∧ w' = w := by
  obtain ⟨res, HR⟩ : ∃ x, Hid (newOk s n b = x) := ⟨_, rfl⟩
  rw [HR.out]
  by_cases hk : 1 ≤ s ∧ s < 997
  · by_cases h1 : 1 ≤ n
    · by_cases h6 : n ≤ 6
      · by_cases hb : b = -1
        · have HF : Hid (res = true) := by show _ = _; rw [← HR.out, newOk_iff]; exact ⟨hk, ⟨h1, h6⟩, .inl hb⟩
          have hbe : (b == -1) = true := by rw [hb]; rfl
          go_enter Try.func17, Try.ntmps17
          go_wp2_with fail
          refine (key_yes _ _ hk.1 hk.2).mono ?_
          rintro e w1 ⟨rfl, rfl⟩
          go_wp2
          go_ret
          exact ⟨ret_bool HF.out.symm, rfl⟩
        · have hbe : (b == -1) = false := beq_eq_false_iff_ne.2 hb
          by_cases hb1 : 1 ≤ b
          · by_cases hb2 : b < n
            · have HF : Hid (res = true) := by show _ = _; rw [← HR.out, newOk_iff]; exact ⟨hk, ⟨h1, h6⟩, .inr ⟨hb1, by omega⟩⟩
              clear hb
              go_enter Try.func17, Try.ntmps17
              go_wp2_with fail
              refine (key_yes _ _ hk.1 hk.2).mono ?_
              rintro e w1 ⟨rfl, rfl⟩
              go_wp2
              go_ret
              exact ⟨ret_bool HF.out.symm, rfl⟩
            · have HF : Hid (res = false) := by show _ = _; rw [← HR.out]; exact newOk_no (by omega)
              have hd : decide (b < n) = false := decide_eq_false hb2
              clear hb
              go_enter Try.func17, Try.ntmps17
              go_wp2_with fail
              refine (key_yes _ _ hk.1 hk.2).mono ?_
              rintro e w1 ⟨rfl, rfl⟩
              go_wp2
              go_ret
              exact ⟨ret_bool HF.out.symm, rfl⟩
          · have HF : Hid (res = false) := by show _ = _; rw [← HR.out]; exact newOk_no (by omega)
            clear hb
            go_enter Try.func17, Try.ntmps17
            go_wp2_with fail
            refine (key_yes _ _ hk.1 hk.2).mono ?_
            rintro e w1 ⟨rfl, rfl⟩
            go_wp2
            go_ret
            exact ⟨ret_bool HF.out.symm, rfl⟩
      · have HF : Hid (res = false) := by show _ = _; rw [← HR.out]; exact newOk_no (by omega)
        go_enter Try.func17, Try.ntmps17
        go_wp2_with fail
        refine (key_yes _ _ hk.1 hk.2).mono ?_
        rintro e w1 ⟨rfl, rfl⟩
        go_wp2
        go_ret
        exact ⟨ret_bool HF.out.symm, rfl⟩
    · have HF : Hid (res = false) := by show _ = _; rw [← HR.out]; exact newOk_no (by omega)
      go_enter Try.func17, Try.ntmps17
      go_wp2_with fail
      refine (key_yes _ _ hk.1 hk.2).mono ?_
      rintro e w1 ⟨rfl, rfl⟩
      go_wp2
      go_ret
      exact ⟨ret_bool HF.out.symm, rfl⟩
  · have HF : Hid (res = false) := by show _ = _; rw [← HR.out]; exact newOk_no (fun x => hk x.1)
    have HK := Lib.hid hk
    clear hk
    go_enter Try.func17, Try.ntmps17
    go_wp2_with fail
    refine (key_no _ _ HK.out).mono ?_
    rintro e w1 ⟨rfl, rfl⟩
    go_wp2
    go_ret
    exact ⟨ret_bool HF.out.symm, rfl⟩

/-- Is there such a peer? -/
def inR (m : Nat) (p : Int) : Bool := decide (0 ≤ p) && decide (p < (m : Int))
theorem inR_iff (m : Nat) (p : Int) : inR m p = true ↔ 0 ≤ p ∧ p < (m : Int) := by unfold inR; rw [Bool.and_eq_true, decide_eq_true_eq, decide_eq_true_eq]
theorem inR_no {m : Nat} {p : Int} (h : ¬ (0 ≤ p ∧ p < (m : Int))) : inR m p = false := by rw [Bool.eq_false_iff]; exact fun e => h ((inR_iff m p).1 e)
set_option maxHeartbeats 2000000 in
set_option maxRecDepth 100000 in
theorem inRun_any (sec bad : Int) (r : WR) (m n2 : Nat) (p : Int) (w : World) :
    Calls Try.prog 53 #[.agg #[.int .i64 sec, .int .i64 bad, .slice r.A1 m r.c1, .slice r.A2 n2 r.c2, .slice r.A3 r.ah.length r.c3, .slice r.A4 r.qh.length r.c4], .int .i64 p] w fun e w' => e = .returned (.bool (inR m p)) ∧ Below w.heap.size w w' := by
  obtain ⟨W, HW⟩ : ∃ W, Hid (w.alloc (.cells #[.int .i64 sec, .int .i64 bad, .slice r.A1 m r.c1, .slice r.A2 n2 r.c2, .slice r.A3 r.ah.length r.c3, .slice r.A4 r.qh.length r.c4] 30) = W) := ⟨_, rfl⟩
  have KA : Hid (Blk W w.heap.size 30 #[.int .i64 sec, .int .i64 bad, .slice r.A1 m r.c1, .slice r.A2 n2 r.c2, .slice r.A3 r.ah.length r.c3, .slice r.A4 r.qh.length r.c4]) := by rw [← HW.out]; exact Blk.new w _ _
  have HB : Hid (Below w.heap.size w W) := by rw [← HW.out]; exact (Below.refl _ w).alloc (Nat.le_refl _) _
  have k2 := (run_cells KA.out).2.2.1
  by_cases h0 : 0 ≤ p
  · by_cases h1 : p < (m : Int)
    · have HF : Hid (inR m p = true) := (inR_iff m p).2 ⟨h0, h1⟩
      go_enter Try.func53, Try.ntmps53
      go_upto_region 1 with fail
      rw [HW.out]
      go_wp2
      go_ret
      exact ⟨ret_bool HF.out.symm, HB.out⟩
    · have HF : Hid (inR m p = false) := inR_no (by omega)
      go_enter Try.func53, Try.ntmps53
      go_upto_region 1 with fail
      rw [HW.out]
      go_wp2
      go_ret
      exact ⟨ret_bool HF.out.symm, HB.out⟩
  · have HF : Hid (inR m p = false) := inR_no (by omega)
    go_enter Try.func53, Try.ntmps53
    go_upto_region 1 with fail
    rw [HW.out]
    go_wp2
    go_ret
    exact ⟨ret_bool HF.out.symm, HB.out⟩

set_option maxHeartbeats 1000000 in
theorem leavesT_empty (A : Option Addr) (cap : Nat) (w : World) :
    Calls Try.prog 78 #[.slice A 0 cap] w (RetSome w []) := by
  go_enter Try.func78, Try.ntmps78
  go_wp2
  refine wp_loop_rounds 1 ?_
  rw [rounds_succ]
  go_wp2
  go_ret
  exact ⟨w.heap.size, 0, rfl, OwnInts.new w, (Below.refl _ _).alloc (Nat.le_refl _) _⟩
theorem leavesT_some (A : Option Addr) (cap : Nat) (bs : List ByteArray) (w : World) (hI : StrsAt w w.heap.size A bs) (hf : Fit bs) (hm : bs.length ≤ 1048576) :
    Calls Try.prog 78 #[.slice A bs.length cap] w (RetSome w (leafL bs)) := by
  by_cases h : bs.length = 0
  · have e := List.eq_nil_of_length_eq_zero h
    subst e
    exact leavesT_empty A cap w
  · refine (textDigests_any A cap bs w hI hf hm).mono ?_
    rintro e w' ⟨X, c, rfl, ho, hb⟩
    obtain ⟨b, hX⟩ := OwnInts.some_ ho (by rw [leafL_length]; omega)
    subst hX
    exact ⟨b, c, rfl, ho, hb⟩

set_option maxHeartbeats 3000000 in
set_option maxRecDepth 100000 in
theorem wLeaves_any (sec bad : Int) (r : WR) (ls : List LinkD) (m n2 : Nat) (w : World) (h : RunAt w w.heap.size r ls) (hm : r.fh.length = m) (hp : 0 < m) (h16 : (fhth r.fh 0).f.bs.length ≤ 16) :
    Calls Try.prog 49 #[.agg #[.int .i64 sec, .int .i64 bad, .slice r.A1 m r.c1, .slice r.A2 n2 r.c2, .slice r.A3 r.ah.length r.c3, .slice r.A4 r.qh.length r.c4]] w (RetSome w (leafL (fhth r.fh 0).f.bs)) := by
  subst hm
  have hF := h.feed 0 hp
  obtain ⟨b, o, hA1⟩ := h.r1.some_ hp
  have hc := (feed_cells6 (hA1 ▸ h.r1) 0 hp).2.2.2.2.1
  have hlt : b < w.heap.size := ((hA1 ▸ h.r1 : RowAt FK w w.heap.size (some ⟨b, o, none⟩) r.fh).lt hp).1
  obtain ⟨H, hH⟩ : ∃ x, fhth r.fh 0 = x := ⟨_, rfl⟩
  rw [hH] at hF hc h16 ⊢
  obtain ⟨W, HW⟩ : ∃ W, Hid (w.alloc (.cells #[.int .i64 sec, .int .i64 bad, .slice r.A1 r.fh.length r.c1, .slice r.A2 n2 r.c2, .slice r.A3 r.ah.length r.c3, .slice r.A4 r.qh.length r.c4] 30) = W) := ⟨_, rfl⟩
  have KA : Hid (Blk W w.heap.size 30 #[.int .i64 sec, .int .i64 bad, .slice r.A1 r.fh.length r.c1, .slice r.A2 n2 r.c2, .slice r.A3 r.ah.length r.c3, .slice r.A4 r.qh.length r.c4]) := by rw [← HW.out]; exact Blk.new w _ _
  have HB : Hid (Below w.heap.size w W) := by rw [← HW.out]; exact (Below.refl _ w).alloc (Nat.le_refl _) _
  have k2 := (run_cells KA.out).2.2.1
  have c4 := (HB.out.cell (p := ⟨b, o + 0 * 6 + 4, none⟩) hlt).trans hc
  rw [show o + 0 * 6 + 4 = o + 4 by omega] at c4
  obtain ⟨N1, HN1⟩ : ∃ n, Hid (r.fh.length = n) := ⟨_, rfl⟩
  rw [hA1, HN1.out] at k2
  have hp1 : 0 < N1 := by rw [← HN1.out]; exact hp
  have C := Lib.hid (leavesT_some H.a1 H.c1 H.f.bs W (hF.feed.strs.belowS HB.out) hF.feed.fit (by omega))
  obtain ⟨m1, HM1⟩ : ∃ m, Hid (H.f.bs.length = m) := ⟨_, rfl⟩
  rw [HM1.out] at C c4
  have hbz : w.heap.size ≤ W.heap.size := HB.out.size
  clear hF hc h16 hA1 hH h hp
  go_enter Try.func49, Try.ntmps49
  go_upto_region 1 with fail
  rw [HW.out]
  go_wp2_with fail
  refine C.out.mono ?_
  rintro e w2 ⟨g, c, rfl, ho, hb⟩
  have HO := Lib.hid (ho.base_le hbz)
  have HB2 : Hid (Below w.heap.size w w2) := HB.out.trans (hb.mono hbz)
  clear ho hb
  go_wp2
  go_ret
  exact ⟨g, c, rfl, HO.out, HB2.out⟩
end Go.Proofs.Ytkmebilhbjcfpaa
