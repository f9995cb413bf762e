/- Contracts of JournalCrash and JournalAdd: what comes of a journal, in memory of the call's own. Conditions: the journal and the record lie in memory. -/
import Derived.Test.YtmddfjfflgfdlaaJournal
import Derived.Deep.Quiet
import Derived.Deep.RegionHeld
namespace Go.Proofs.Ytmddfjfflgfdlaa
open Go.RowKit Go.Conc
set_option linter.unusedVariables false

set_option maxHeartbeats 1000000 in
set_option maxRecDepth 100000 in
theorem jcrash_any (A : Option Addr) (cap : Nat) (s keep : Int) (rs : List RD) (w : World) (hJ : JAt w w.heap.size A cap rs) :
    Calls Try.prog 22 #[journalV A rs.length cap s, .int .i64 keep] w (RetJ w (crashR rs s keep) (crashS rs s keep)) := by
  have HJ := Lib.hid hJ
  have CV : Hid (∀ U, Below w.heap.size w U → Calls Try.prog 11 #[journalV A rs.length cap s] U fun e w' => e = .returned (.bool (jokB rs s)) ∧ Below U.heap.size U w') := fun U hU => jvalid_any A cap s rs U (hJ.belowS hU)
  have CF : Hid (jokB rs s = true → ∀ (k : Nat) U, k ≤ rs.length → Below w.heap.size w U → Calls Try.prog 45 #[journalV A rs.length cap s, .int .i64 (k : Int)] U (RetJ U (rs.take k) k)) := fun hO k U hk hU => withFirst_any A cap s rs k U (hJ.belowS hU) hk ((jokB_iff _ _).1 hO).1
  clear hJ
  obtain ⟨n, HN⟩ : ∃ n, Hid (rs.length = n) := ⟨_, rfl⟩
  rw [HN.out] at CV CF ⊢
  obtain ⟨W, HW⟩ : ∃ W, Hid ((w.alloc (.cells #[.slice A n cap, .int .i64 s] 29)).alloc (.cells #[.slice none 0 0, .int .i64 0] 29) = W) := ⟨_, rfl⟩
  have KJ : Hid (Blk W w.heap.size 29 #[.slice A n cap, .int .i64 s]) := by rw [← HW.out]; exact (Blk.new w _ _).alloc _
  have KZ : Hid (Blk W (w.heap.size + 1) 29 #[.slice none 0 0, .int .i64 0]) := by
    rw [← HW.out]
    have h := Blk.new (w.alloc (.cells #[.slice A n cap, .int .i64 s] 29)) 29 #[.slice none 0 0, .int .i64 0]
    rw [World.size_alloc] at h
    exact h
  have HB : Hid (Below w.heap.size w W) := by rw [← HW.out]; exact ((Below.refl _ w).alloc (Nat.le_refl _) _).alloc (by simp) _
  cases hO : jokB rs s with
  | false =>
    have HR : Hid (crashR rs s keep = []) := by show _ = _; unfold crashR; rw [hO, if_neg (by simp)]
    have HS : Hid (crashS rs s keep = 0) := by show _ = _; unfold crashS; rw [hO, if_neg (by simp)]
    rw [hO] at CV
    rw [HR.out, HS.out]
    clear CF hO
    go_enter Try.func22, Try.ntmps22
    go_wp2_with fail
    rw [HW.out]
    refine (CV.out _ HB.out).mono ?_
    rintro e w1 ⟨rfl, hb1⟩
    have KZ1 := Lib.hid (KZ.out.below hb1 KZ.out.lt)
    have HB1 : Hid (Below w.heap.size w w1) := HB.out.trans (hb1.mono HB.out.size)
    clear hb1
    obtain ⟨z0, z1⟩ := jr_cells KZ1.out
    have zf := blk_frozen KZ1.out
    go_wp2
    obtain ⟨Y, HY⟩ : ∃ Y, Hid ((w1.setCell ⟨w.heap.size + 1, 0, none⟩ (.slice none 0 0)).setCell ⟨w.heap.size + 1, 1, none⟩ (.int .i64 0) = Y) := ⟨_, rfl⟩
    have HBY : Hid (Below w.heap.size w Y) := by rw [← HY.out]; exact below_two HB1.out (by omega) _ _
    have KY : Hid (Blk Y (w.heap.size + 1) 29 #[.slice none 0 0, .int .i64 0]) := by rw [← HY.out]; exact blk_two KZ1.out _ _
    rw [HY.out]
    obtain ⟨y0, y1⟩ := jr_cells KY.out
    exact bodyPost_ret (v := journalV none 0 0 0) (by simp [results, Try.results22, go_sem, y0, y1]) rfl ⟨none, 0, rfl, OwnRow.zero RK _ _, FitR.of (fun _ h => by cases h), HBY.out⟩
  | true =>
    have CF2 := Lib.hid (CF.out hO)
    obtain ⟨h20, hs0, hs1, -⟩ := (jokB_iff _ _).1 hO
    have hO' := Lib.hid hO
    rw [hO] at CV
    rw [HN.out] at h20 hs1
    clear CF hO
    by_cases hk : 0 ≤ keep
    · have hk1 : ¬ keep < 0 := by omega
      by_cases hmin : keep ≤ (n : Int) - s
      · obtain ⟨k, hkk⟩ : ∃ k : Nat, s + keep = (k : Int) := ⟨(s + keep).toNat, by omega⟩
        have hkn : k ≤ n := by omega
        have hmm : ¬ (n : Int) - s < keep := by omega
        have HK : Hid (keepN rs s keep = k) := by
          show _ = _
          unfold keepN
          rw [HN.out]
          omega
        have HLT : Hid ((rs.take k).length = k) := by show _ = _; rw [List.length_take, HN.out]; omega
        have HR : Hid (crashR rs s keep = rs.take k) := by show _ = _; unfold crashR; rw [if_pos ⟨hO'.out, hk⟩, HK.out]
        have HS : Hid (crashS rs s keep = (k : Int)) := by show _ = _; unfold crashS; rw [if_pos ⟨hO'.out, hk⟩, HK.out]
        have hn20 : (n : Int) ≤ 20 := by omega
        have hs2 : s ≤ 20 := by omega
        have CF3 : Hid (∀ U, Below w.heap.size w U → Calls Try.prog 45 #[journalV A n cap s, .int .i64 (s + keep)] U (RetJ U (rs.take k) k)) := fun U hU => by rw [hkk]; exact CF2.out k U hkn hU
        rw [HR.out, HS.out]
        have HKK := Lib.hid hkk
        clear CF2 hkk
        go_enter Try.func22, Try.ntmps22
        go_wp2_with fail
        rw [HW.out]
        refine (CV.out _ HB.out).mono ?_
        rintro e w1 ⟨rfl, hb1⟩
        have KZ1 := Lib.hid (KZ.out.below hb1 KZ.out.lt)
        have KJ1 := Lib.hid (KJ.out.below hb1 KJ.out.lt)
        have HB1 : Hid (Below w.heap.size w w1) := HB.out.trans (hb1.mono HB.out.size)
        clear hb1
        obtain ⟨j0, j1⟩ := jr_cells KJ1.out
        go_wp2_with fail
        refine (CF3.out _ HB1.out).mono ?_
        rintro e w2 ⟨X, x, rfl, ho2, hf2, hb2⟩
        rw [HLT.out]
        have KZ2 := Lib.hid (KZ1.out.below hb2 KZ1.out.lt)
        have HB2 : Hid (Below w.heap.size w w2) := HB1.out.trans (hb2.mono HB1.out.size)
        have HO2 : Hid (OwnRow RK w2 w.heap.size X x (rs.take k)) := ho2.base_le HB1.out.size
        have HF2 := Lib.hid hf2
        clear hb2 ho2 hf2 j0 j1
        obtain ⟨z0, z1⟩ := jr_cells KZ2.out
        have zf := blk_frozen KZ2.out
        go_wp2
        obtain ⟨Y, HY⟩ : ∃ Y, Hid ((w2.setCell ⟨w.heap.size + 1, 0, none⟩ (.slice X k x)).setCell ⟨w.heap.size + 1, 1, none⟩ (.int .i64 (k : Int)) = Y) := ⟨_, rfl⟩
        have HBY : Hid (Below w.heap.size w Y) := by rw [← HY.out]; exact below_two HB2.out (by omega) _ _
        have KY : Hid (Blk Y (w.heap.size + 1) 29 #[.slice X k x, .int .i64 (k : Int)]) := by rw [← HY.out]; exact blk_two KZ2.out _ _
        have HOY : Hid (OwnRow RK Y w.heap.size X x (rs.take k)) := by rw [← HY.out]; exact rown_two HO2.out KZ2.out _ _
        rw [HY.out]
        obtain ⟨y0, y1⟩ := jr_cells KY.out
        exact bodyPost_ret (v := journalV X k x (k : Int)) (by simp [results, Try.results22, go_sem, y0, y1]) rfl ⟨X, x, by rw [HLT.out], HOY.out, HF2.out, HBY.out⟩
      · obtain ⟨k, hkk⟩ : ∃ k : Nat, s + ((n : Int) - s) = (k : Int) := ⟨(s + ((n : Int) - s)).toNat, by omega⟩
        have hkn : k ≤ n := by omega
        have hmm : (n : Int) - s < keep := by omega
        have HK : Hid (keepN rs s keep = k) := by
          show _ = _
          unfold keepN
          rw [HN.out]
          omega
        have HLT : Hid ((rs.take k).length = k) := by show _ = _; rw [List.length_take, HN.out]; omega
        have HR : Hid (crashR rs s keep = rs.take k) := by show _ = _; unfold crashR; rw [if_pos ⟨hO'.out, hk⟩, HK.out]
        have HS : Hid (crashS rs s keep = (k : Int)) := by show _ = _; unfold crashS; rw [if_pos ⟨hO'.out, hk⟩, HK.out]
        have hn20 : (n : Int) ≤ 20 := by omega
        have hs2 : s ≤ 20 := by omega
        have CF3 : Hid (∀ U, Below w.heap.size w U → Calls Try.prog 45 #[journalV A n cap s, .int .i64 (s + ((n : Int) - s))] U (RetJ U (rs.take k) k)) := fun U hU => by rw [hkk]; exact CF2.out k U hkn hU
        rw [HR.out, HS.out]
        have HKK := Lib.hid hkk
        clear CF2 hkk
        go_enter Try.func22, Try.ntmps22
        go_wp2_with fail
        rw [HW.out]
        refine (CV.out _ HB.out).mono ?_
        rintro e w1 ⟨rfl, hb1⟩
        have KZ1 := Lib.hid (KZ.out.below hb1 KZ.out.lt)
        have KJ1 := Lib.hid (KJ.out.below hb1 KJ.out.lt)
        have HB1 : Hid (Below w.heap.size w w1) := HB.out.trans (hb1.mono HB.out.size)
        clear hb1
        obtain ⟨j0, j1⟩ := jr_cells KJ1.out
        go_wp2_with fail
        refine (CF3.out _ HB1.out).mono ?_
        rintro e w2 ⟨X, x, rfl, ho2, hf2, hb2⟩
        rw [HLT.out]
        have KZ2 := Lib.hid (KZ1.out.below hb2 KZ1.out.lt)
        have HB2 : Hid (Below w.heap.size w w2) := HB1.out.trans (hb2.mono HB1.out.size)
        have HO2 : Hid (OwnRow RK w2 w.heap.size X x (rs.take k)) := ho2.base_le HB1.out.size
        have HF2 := Lib.hid hf2
        clear hb2 ho2 hf2 j0 j1
        obtain ⟨z0, z1⟩ := jr_cells KZ2.out
        have zf := blk_frozen KZ2.out
        go_wp2
        obtain ⟨Y, HY⟩ : ∃ Y, Hid ((w2.setCell ⟨w.heap.size + 1, 0, none⟩ (.slice X k x)).setCell ⟨w.heap.size + 1, 1, none⟩ (.int .i64 (k : Int)) = Y) := ⟨_, rfl⟩
        have HBY : Hid (Below w.heap.size w Y) := by rw [← HY.out]; exact below_two HB2.out (by omega) _ _
        have KY : Hid (Blk Y (w.heap.size + 1) 29 #[.slice X k x, .int .i64 (k : Int)]) := by rw [← HY.out]; exact blk_two KZ2.out _ _
        have HOY : Hid (OwnRow RK Y w.heap.size X x (rs.take k)) := by rw [← HY.out]; exact rown_two HO2.out KZ2.out _ _
        rw [HY.out]
        obtain ⟨y0, y1⟩ := jr_cells KY.out
        exact bodyPost_ret (v := journalV X k x (k : Int)) (by simp [results, Try.results22, go_sem, y0, y1]) rfl ⟨X, x, by rw [HLT.out], HOY.out, HF2.out, HBY.out⟩
    · have hk1 : keep < 0 := by omega
      have HR : Hid (crashR rs s keep = []) := by show _ = _; unfold crashR; rw [if_neg (fun h => hk h.2)]
      have HS : Hid (crashS rs s keep = 0) := by show _ = _; unfold crashS; rw [if_neg (fun h => hk h.2)]
      rw [HR.out, HS.out]
      clear CF2 hk
      go_enter Try.func22, Try.ntmps22
      go_wp2_with fail
      rw [HW.out]
      refine (CV.out _ HB.out).mono ?_
      rintro e w1 ⟨rfl, hb1⟩
      have KZ1 := Lib.hid (KZ.out.below hb1 KZ.out.lt)
      have HB1 : Hid (Below w.heap.size w w1) := HB.out.trans (hb1.mono HB.out.size)
      clear hb1
      obtain ⟨z0, z1⟩ := jr_cells KZ1.out
      have zf := blk_frozen KZ1.out
      go_wp2
      obtain ⟨Y, HY⟩ : ∃ Y, Hid ((w1.setCell ⟨w.heap.size + 1, 0, none⟩ (.slice none 0 0)).setCell ⟨w.heap.size + 1, 1, none⟩ (.int .i64 0) = Y) := ⟨_, rfl⟩
      have HBY : Hid (Below w.heap.size w Y) := by rw [← HY.out]; exact below_two HB1.out (by omega) _ _
      have KY : Hid (Blk Y (w.heap.size + 1) 29 #[.slice none 0 0, .int .i64 0]) := by rw [← HY.out]; exact blk_two KZ1.out _ _
      rw [HY.out]
      obtain ⟨y0, y1⟩ := jr_cells KY.out
      exact bodyPost_ret (v := journalV none 0 0 0) (by simp [results, Try.results22, go_sem, y0, y1]) rfl ⟨none, 0, rfl, OwnRow.zero RK _ _, FitR.of (fun _ h => by cases h), HBY.out⟩

/-- What JournalAdd hands back. -/
def RetJ2 (w : World) (rs : List RD) (s : Int) (b : Bool) (e : Ending) (w' : World) : Prop :=
  ∃ A c, e = .returned (.tuple #[journalV A rs.length c s, .bool b]) ∧ OwnRow RK w' w.heap.size A c rs ∧ FitR rs ∧ Below w.heap.size w w'

set_option maxHeartbeats 2000000 in
set_option maxRecDepth 100000 in
theorem jadd_any (A : Option Addr) (cap : Nat) (s : Int) (rs : List RD) (r : RD) (w : World) (hJ : JAt w w.heap.size A cap rs) (hr : r.t.size ≤ maxLen) :
    Calls Try.prog 16 #[journalV A rs.length cap s, recV r] w (RetJ2 w (addR rs s r) (addS rs s r) (addB rs s r)) := by
  have HJ := Lib.hid hJ
  have CV : Hid (∀ U, Below w.heap.size w U → Calls Try.prog 11 #[journalV A rs.length cap s] U fun e w' => e = .returned (.bool (jokB rs s)) ∧ Below U.heap.size U w') := fun U hU => jvalid_any A cap s rs U (hJ.belowS hU)
  have CR : Hid (∀ U, Calls Try.prog 37 #[recV r] U fun e w' => e = .returned (.bool (recB r)) ∧ Below U.heap.size U w') := fun U => recordValid_any r U hr
  have CQ : Hid (rs.length ≤ 20 → ∀ U, Below w.heap.size w U → Calls Try.prog 40 #[.slice A rs.length cap] U (Queued U rs)) := fun h20 U hU => recordQueue_any A cap rs U (hJ.belowS hU).row h20
  have HFT := Lib.hid hr
  have HFS : Hid (FitR (rs ++ [r])) := hJ.fit.snoc hr
  have HFR := Lib.hid hJ.fit
  obtain ⟨ri, rt⟩ := r
  clear hJ hr
  obtain ⟨n, HN⟩ : ∃ n, Hid (rs.length = n) := ⟨_, rfl⟩
  rw [HN.out] at CV CQ ⊢
  obtain ⟨W, HW⟩ : ∃ W, Hid (((w.alloc (.cells #[.slice A n cap, .int .i64 s] 29)).alloc (.cells #[.int .i64 ri, .string rt] 38)).alloc (.cells #[.slice none 0 0, .int .i64 0] 29) = W) := ⟨_, rfl⟩
  have KJ : Hid (Blk W w.heap.size 29 #[.slice A n cap, .int .i64 s]) := by rw [← HW.out]; exact ((Blk.new w _ _).alloc _).alloc _
  have KR : Hid (Blk W (w.heap.size + 1) 38 #[.int .i64 ri, .string rt]) := by
    rw [← HW.out]
    have h := (Blk.new (w.alloc (.cells #[.slice A n cap, .int .i64 s] 29)) 38 #[.int .i64 ri, .string rt]).alloc (.cells #[.slice none 0 0, .int .i64 0] 29)
    rw [World.size_alloc] at h
    exact h
  have KZ : Hid (Blk W (w.heap.size + 1 + 1) 29 #[.slice none 0 0, .int .i64 0]) := by
    rw [← HW.out]
    have h := Blk.new ((w.alloc (.cells #[.slice A n cap, .int .i64 s] 29)).alloc (.cells #[.int .i64 ri, .string rt] 38)) 29 #[.slice none 0 0, .int .i64 0]
    rw [World.size_alloc, World.size_alloc] at h
    exact h
  have HB : Hid (Below w.heap.size w W) := by rw [← HW.out]; exact (((Below.refl _ w).alloc (Nat.le_refl _) _).alloc (by simp) _).alloc (by simp; omega) _
  cases hO : jokB rs s with
  | false =>
    have HR : Hid (addR rs s ⟨ri, rt⟩ = [] ∧ addS rs s ⟨ri, rt⟩ = 0 ∧ addB rs s ⟨ri, rt⟩ = false) := by
      show _ ∧ _ ∧ _
      unfold addR addS addB
      rw [hO, if_neg (by simp), if_neg (by simp)]
      exact ⟨rfl, rfl, rfl⟩
    rw [hO] at CV
    rw [HR.out.1, HR.out.2.1, HR.out.2.2]
    clear CQ CR hO
    go_enter Try.func16, Try.ntmps16
    go_wp2_with fail
    rw [HW.out]
    refine (CV.out _ HB.out).mono ?_
    rintro e w1 ⟨rfl, hb1⟩
    have KZ1 := Lib.hid (KZ.out.below hb1 KZ.out.lt)
    have HB1 : Hid (Below w.heap.size w w1) := HB.out.trans (hb1.mono HB.out.size)
    clear hb1
    obtain ⟨z0, z1⟩ := jr_cells KZ1.out
    have zf := blk_frozen KZ1.out
    go_wp2
    obtain ⟨Y, HY⟩ : ∃ Y, Hid ((w1.setCell ⟨w.heap.size + 1 + 1, 0, none⟩ (.slice none 0 0)).setCell ⟨w.heap.size + 1 + 1, 1, none⟩ (.int .i64 0) = Y) := ⟨_, rfl⟩
    have HBY : Hid (Below w.heap.size w Y) := by rw [← HY.out]; exact below_two HB1.out (by omega) _ _
    have KY : Hid (Blk Y (w.heap.size + 1 + 1) 29 #[.slice none 0 0, .int .i64 0]) := by rw [← HY.out]; exact blk_two KZ1.out _ _
    rw [HY.out]
    obtain ⟨y0, y1⟩ := jr_cells KY.out
    exact bodyPost_ret (v := .tuple #[journalV none 0 0 0, .bool false]) (by simp [results, Try.results16, go_sem, y0, y1]) rfl ⟨none, 0, rfl, OwnRow.zero RK _ _, FitR.of (fun _ h => by cases h), HBY.out⟩
  | true =>
    have h20 := ((jokB_iff _ _).1 hO).1
    rw [HN.out] at h20
    have CQ2 := Lib.hid (CQ.out h20)
    have HO := Lib.hid hO
    rw [hO] at CV
    clear CQ hO
    cases hq : recB ⟨ri, rt⟩ with
    | false =>
      have HR : Hid (addR rs s ⟨ri, rt⟩ = [] ∧ addS rs s ⟨ri, rt⟩ = 0 ∧ addB rs s ⟨ri, rt⟩ = false) := by
        show _ ∧ _ ∧ _
        unfold addR addS addB
        rw [hq, if_neg (by simp), if_neg (by simp)]
        exact ⟨rfl, rfl, by simp⟩
      rw [hq] at CR
      rw [HR.out.1, HR.out.2.1, HR.out.2.2]
      clear CQ2 hq
      go_enter Try.func16, Try.ntmps16
      go_wp2_with fail
      rw [HW.out]
      refine (CV.out _ HB.out).mono ?_
      rintro e w1 ⟨rfl, hb1⟩
      have KZ1 := Lib.hid (KZ.out.below hb1 KZ.out.lt)
      have KJ1 := Lib.hid (KJ.out.below hb1 KJ.out.lt)
      have KR1 := Lib.hid (KR.out.below hb1 KR.out.lt)
      have HB1 : Hid (Below w.heap.size w w1) := HB.out.trans (hb1.mono HB.out.size)
      clear hb1
      obtain ⟨r0, r1⟩ := jr_cells KR1.out
      go_wp2_with fail
      refine (CR.out _).mono ?_
      rintro e w2 ⟨rfl, hb2⟩
      have KZ2 := Lib.hid (KZ1.out.below hb2 KZ1.out.lt)
      have KJ2 := Lib.hid (KJ1.out.below hb2 KJ1.out.lt)
      have KR2 := Lib.hid (KR1.out.below hb2 KR1.out.lt)
      have HB2 : Hid (Below w.heap.size w w2) := HB1.out.trans (hb2.mono HB1.out.size)
      clear hb2 r0 r1
      obtain ⟨z0, z1⟩ := jr_cells KZ2.out
      have zf := blk_frozen KZ2.out
      go_wp2
      obtain ⟨Y, HY⟩ : ∃ Y, Hid ((w2.setCell ⟨w.heap.size + 1 + 1, 0, none⟩ (.slice none 0 0)).setCell ⟨w.heap.size + 1 + 1, 1, none⟩ (.int .i64 0) = Y) := ⟨_, rfl⟩
      have HBY : Hid (Below w.heap.size w Y) := by rw [← HY.out]; exact below_two HB2.out (by omega) _ _
      have KY : Hid (Blk Y (w.heap.size + 1 + 1) 29 #[.slice none 0 0, .int .i64 0]) := by rw [← HY.out]; exact blk_two KZ2.out _ _
      rw [HY.out]
      obtain ⟨y0, y1⟩ := jr_cells KY.out
      exact bodyPost_ret (v := .tuple #[journalV none 0 0 0, .bool false]) (by simp [results, Try.results16, go_sem, y0, y1]) rfl ⟨none, 0, rfl, OwnRow.zero RK _ _, FitR.of (fun _ h => by cases h), HBY.out⟩
    | true =>
      rw [hq] at CR
      have HQ := Lib.hid hq
      clear hq
      by_cases hlt : n < 20
      · have HR : Hid (addR rs s ⟨ri, rt⟩ = (rs ++ [(⟨ri, rt⟩ : RD)]) ∧ addS rs s ⟨ri, rt⟩ = s ∧ addB rs s ⟨ri, rt⟩ = true) := by
          show _ ∧ _ ∧ _
          unfold addR addS addB
          simp only [HO.out, HQ.out, HN.out, hlt, and_self, Bool.true_and, decide_true, ↓reduceIte]
        have HLN : Hid ((rs ++ [(⟨ri, rt⟩ : RD)]).length = (n + 1)) := by show _ = _; rw [List.length_append, HN.out]; rfl
        have HMAP : Hid ((rs ++ [(⟨ri, rt⟩ : RD)]).map recV = rs.map recV ++ [recV ⟨ri, rt⟩]) := by show _ = _; rw [List.map_append]; rfl
        rw [HR.out.1, HR.out.2.1, HR.out.2.2]
        go_enter Try.func16, Try.ntmps16
        go_wp2_with fail
        rw [HW.out]
        refine (CV.out _ HB.out).mono ?_
        rintro e w1 ⟨rfl, hb1⟩
        have KZ1 := Lib.hid (KZ.out.below hb1 KZ.out.lt)
        have KJ1 := Lib.hid (KJ.out.below hb1 KJ.out.lt)
        have KR1 := Lib.hid (KR.out.below hb1 KR.out.lt)
        have HB1 : Hid (Below w.heap.size w w1) := HB.out.trans (hb1.mono HB.out.size)
        clear hb1
        obtain ⟨r0, r1⟩ := jr_cells KR1.out
        go_wp2_with fail
        refine (CR.out _).mono ?_
        rintro e w2 ⟨rfl, hb2⟩
        have KZ2 := Lib.hid (KZ1.out.below hb2 KZ1.out.lt)
        have KJ2 := Lib.hid (KJ1.out.below hb2 KJ1.out.lt)
        have KR2 := Lib.hid (KR1.out.below hb2 KR1.out.lt)
        have HB2 : Hid (Below w.heap.size w w2) := HB1.out.trans (hb2.mono HB1.out.size)
        clear hb2 r0 r1
        obtain ⟨j0, j1⟩ := jr_cells KJ2.out
        go_wp2_with fail
        refine (CQ2.out _ HB2.out).mono ?_
        rintro e w3 ⟨c, rfl, hch3, hcB, hb3⟩
        have KZ3 := Lib.hid (KZ2.out.below hb3 KZ2.out.lt)
        have KJ3 := Lib.hid (KJ2.out.below hb3 KJ2.out.lt)
        have KR3 := Lib.hid (KR2.out.below hb3 KR2.out.lt)
        have HB3 : Hid (Below w.heap.size w w3) := HB2.out.trans (hb3.mono HB2.out.size)
        have hcz : w.heap.size + 1 + 1 < c := by have := KZ2.out.lt; omega
        have HC3 := Lib.hid hch3
        clear hch3 hb3 j0 j1 hcB
        obtain ⟨r0, r1⟩ := jr_cells KR3.out
        have CO : Hid (Calls Try.prog 41 #[.chan (some c), .agg #[.int .i64 ri, .string rt]] w3 (Offered w3 c (rs.map recV ++ [recV ⟨ri, rt⟩]))) := offer_yes c (rs.map recV) ⟨ri, rt⟩ w3 HC3.out (by rw [List.length_map, HN.out]; exact hlt)
        go_wp2_with fail
        refine CO.out.mono ?_
        rintro e w4 ⟨rfl, hch4, hg4⟩
        have KZ4 := Lib.hid (KZ3.out.grown hg4 (fun e => by injection e with e; omega))
        have KJ4 := Lib.hid (KJ3.out.grown hg4 (fun e => by injection e with e; omega))
        have HB4 : Hid (Below w.heap.size w w4) := HB3.out.grown hg4 HB3.out.size (fun i hi => by injection hi with hi; omega)
        have HC4 : Hid (ChanAt w4 c ((rs ++ [(⟨ri, rt⟩ : RD)]).map recV) false) := by rw [HMAP.out]; exact hch4
        clear hch4 hg4 CO r0 r1
        obtain ⟨j0, j1⟩ := jr_cells KJ4.out
        obtain ⟨z0, z1⟩ := jr_cells KZ4.out
        have zf := blk_frozen KZ4.out
        have CD : Hid (∀ U, ChanAt U c ((rs ++ [(⟨ri, rt⟩ : RD)]).map recV) false → Calls Try.prog 42 #[.chan (some c)] U (Drained U c (rs ++ [(⟨ri, rt⟩ : RD)]))) := fun U h => drain_any c (rs ++ [(⟨ri, rt⟩ : RD)]) U h (by rw [HLN.out]; omega)
        go_wp2_with fail
        refine wp_region_held_drew (S := (fun w' => w'.cell? ⟨w.heap.size, 0, none⟩ = some (.slice A n cap) ∧ w'.cell? ⟨w.heap.size, 1, none⟩ = some (.int .i64 s))) (by kernel_rfl) (⟨j0, j1⟩) (fun hHeld => ?_)
        refine wpAnyH_take (i := 0) (v := ?zv1) rfl (by kernel_rfl) (by kernel_rfl) (by kernel_rfl) (fun _ _ _ h => h) (Or.inl ⟨by kernel_rfl, ?zy1⟩) (by assumption) ?zr1
        case zy1 => (intro w hSw; (try dsimp only at hSw); go_simp; try with_reducible rfl)
        change wpAnyH _ _ _ _ _ _ _ (Act.put _ (some 23) _) _
        simp only [Act.put, List.setIfInBounds_toArray, List.set_cons_zero, List.set_cons_succ]
        refine wpAnyH_take (i := 2) (v := ?zv2) rfl (by kernel_rfl) (by kernel_rfl) (by kernel_rfl) (fun _ _ _ h => h) (Or.inl ⟨by kernel_rfl, ?zy2⟩) (by assumption) ?zr2
        case zy2 => (intro w hSw; (try dsimp only at hSw); go_simp; try with_reducible rfl)
        change wpAnyH _ _ _ _ _ _ _ (Act.put _ (some 25) _) _
        simp only [Act.put, List.setIfInBounds_toArray, List.set_cons_zero, List.set_cons_succ]
        refine wpAnyH_take (i := 3) (v := ?zv3) rfl (by kernel_rfl) (by kernel_rfl) (by kernel_rfl) (fun _ _ _ h => h) (Or.inl ⟨by kernel_rfl, ?zy3⟩) (by assumption) ?zr3
        case zy3 => (intro w hSw; (try dsimp only at hSw); go_simp; try with_reducible rfl)
        change wpAnyH _ _ _ _ _ _ _ (Act.put _ (some 26) _) _
        simp only [Act.put, List.setIfInBounds_toArray, List.set_cons_zero, List.set_cons_succ]
        refine wpAnyH_take (i := 5) (v := ?zv4) rfl (by kernel_rfl) (by kernel_rfl) (by kernel_rfl) (fun _ _ _ h => h) (Or.inl ⟨by kernel_rfl, ?zy4⟩) (by assumption) ?zr4
        case zy4 => (intro w hSw; (try dsimp only at hSw); go_simp; try with_reducible rfl)
        change wpAnyH _ _ _ _ _ _ _ (Act.put _ (some 28) _) _
        simp only [Act.put, List.setIfInBounds_toArray, List.set_cons_zero, List.set_cons_succ]
        refine wpAnyH_ready (rs := [1]) (by kernel_rfl) (by simp) (AllReadyH.cons rfl (fun K hK => ?_) AllReadyH.nil)
        go_simp
        go_at_call 42
        refine (CD.out _ HC4.out.drew).mono ?_
        rintro e w5 ⟨X, x, rfl, ho5, hg5⟩
        rw [HLN.out]
        have KZ5 := Lib.hid ((KZ4.out.drewN 1).grown hg5 (fun e => by injection e with e; omega))
        have KJ5 := Lib.hid ((KJ4.out.drewN 1).grown hg5 (fun e => by injection e with e; omega))
        have HB5 : Hid (Below w.heap.size w w5) := (below_drew HB4.out).grown hg5 HB4.out.size (fun i hi => by injection hi with hi; omega)
        have HO5 : Hid (OwnRow RK w5 w.heap.size X x (rs ++ [(⟨ri, rt⟩ : RD)])) := ho5.base_le HB4.out.size
        clear ho5 hg5 j0 j1 z0 z1 zf
        obtain ⟨j0, j1⟩ := jr_cells KJ5.out
        obtain ⟨z0, z1⟩ := jr_cells KZ5.out
        have zf := blk_frozen KZ5.out
        refine hK.out _ _ (⟨j0, j1⟩) (fun hHeld => ?_)
        clear hK K
        (try simp only [Act.put, List.setIfInBounds_toArray, List.set_cons_zero, List.set_cons_succ])
        refine wpAnyH_take (i := 4) (v := ?zv5) rfl (by kernel_rfl) (by kernel_rfl) (by kernel_rfl) (fun _ _ _ h => h) (Or.inl ⟨by kernel_rfl, ?zy5⟩) (by assumption) ?zr5
        case zy5 => (intro w hSw; (try dsimp only at hSw); go_simp; try with_reducible rfl)
        change wpAnyH _ _ _ _ _ _ _ (Act.put _ (some 27) _) _
        simp only [Act.put, List.setIfInBounds_toArray, List.set_cons_zero, List.set_cons_succ]
        refine wpAnyH_ready (rs := [6]) (by kernel_rfl) (by simp) (AllReadyH.cons rfl (fun K hK => ?_) AllReadyH.nil)
        go_simp
        refine hK.out _ _ (jr_cells ((KJ5.out.setOther (p := ⟨w.heap.size + 1 + 1, 0, none⟩) (by show w.heap.size + 1 + 1 ≠ _; omega) _).setOther (p := ⟨w.heap.size + 1 + 1, 1, none⟩) (by show w.heap.size + 1 + 1 ≠ _; omega) _)) (fun hHeld => ?_)
        clear hK K
        (try simp only [Act.put])
        refine wpAnyH_take (i := 7) (v := ?zv6) rfl (by kernel_rfl) (by kernel_rfl) (by kernel_rfl) (fun _ _ _ h => h) (Or.inl ⟨by kernel_rfl, ?zy6⟩) (by assumption) ?zr6
        case zy6 => (intro w hSw; (try dsimp only at hSw); go_simp; try with_reducible rfl)
        change wpAnyH _ _ _ _ _ _ _ (Act.put _ (some 5) _) _
        simp only [Act.put, List.setIfInBounds_toArray, List.set_cons_zero, List.set_cons_succ]
        refine wpAnyH_done (by kernel_rfl) ?_ _
        go_wp2
        obtain ⟨Y, HY⟩ : ∃ Y, Hid ((w5.setCell ⟨w.heap.size + 1 + 1, 0, none⟩ (.slice X (n + 1) x)).setCell ⟨w.heap.size + 1 + 1, 1, none⟩ (.int .i64 s) = Y) := ⟨_, rfl⟩
        have HBY : Hid (Below w.heap.size w Y) := by rw [← HY.out]; exact below_two HB5.out (by omega) _ _
        have KY : Hid (Blk Y (w.heap.size + 1 + 1) 29 #[.slice X (n + 1) x, .int .i64 s]) := by rw [← HY.out]; exact blk_two KZ5.out _ _
        have HOY : Hid (OwnRow RK Y w.heap.size X x (rs ++ [(⟨ri, rt⟩ : RD)])) := by rw [← HY.out]; exact rown_two HO5.out KZ5.out _ _
        rw [HY.out]
        obtain ⟨y0, y1⟩ := jr_cells KY.out
        exact bodyPost_ret (v := .tuple #[journalV X (n + 1) x s, .bool true]) (by simp [results, Try.results16, go_sem, y0, y1]) rfl ⟨X, x, by rw [HLN.out], HOY.out, HFS.out, HBY.out⟩
      · have HR : Hid (addR rs s ⟨ri, rt⟩ = rs ∧ addS rs s ⟨ri, rt⟩ = s ∧ addB rs s ⟨ri, rt⟩ = false) := by
          show _ ∧ _ ∧ _
          unfold addR addS addB
          simp only [HO.out, HQ.out, HN.out, hlt, and_self, Bool.true_and, decide_false, ↓reduceIte]
        have HLN : Hid (rs.length = n) := by show _ = _; exact HN.out
        have HMAP : Hid (rs.map recV = rs.map recV) := by show _ = _; rfl
        rw [HR.out.1, HR.out.2.1, HR.out.2.2]
        go_enter Try.func16, Try.ntmps16
        go_wp2_with fail
        rw [HW.out]
        refine (CV.out _ HB.out).mono ?_
        rintro e w1 ⟨rfl, hb1⟩
        have KZ1 := Lib.hid (KZ.out.below hb1 KZ.out.lt)
        have KJ1 := Lib.hid (KJ.out.below hb1 KJ.out.lt)
        have KR1 := Lib.hid (KR.out.below hb1 KR.out.lt)
        have HB1 : Hid (Below w.heap.size w w1) := HB.out.trans (hb1.mono HB.out.size)
        clear hb1
        obtain ⟨r0, r1⟩ := jr_cells KR1.out
        go_wp2_with fail
        refine (CR.out _).mono ?_
        rintro e w2 ⟨rfl, hb2⟩
        have KZ2 := Lib.hid (KZ1.out.below hb2 KZ1.out.lt)
        have KJ2 := Lib.hid (KJ1.out.below hb2 KJ1.out.lt)
        have KR2 := Lib.hid (KR1.out.below hb2 KR1.out.lt)
        have HB2 : Hid (Below w.heap.size w w2) := HB1.out.trans (hb2.mono HB1.out.size)
        clear hb2 r0 r1
        obtain ⟨j0, j1⟩ := jr_cells KJ2.out
        go_wp2_with fail
        refine (CQ2.out _ HB2.out).mono ?_
        rintro e w3 ⟨c, rfl, hch3, hcB, hb3⟩
        have KZ3 := Lib.hid (KZ2.out.below hb3 KZ2.out.lt)
        have KJ3 := Lib.hid (KJ2.out.below hb3 KJ2.out.lt)
        have KR3 := Lib.hid (KR2.out.below hb3 KR2.out.lt)
        have HB3 : Hid (Below w.heap.size w w3) := HB2.out.trans (hb3.mono HB2.out.size)
        have hcz : w.heap.size + 1 + 1 < c := by have := KZ2.out.lt; omega
        have HC3 := Lib.hid hch3
        clear hch3 hb3 j0 j1 hcB
        obtain ⟨r0, r1⟩ := jr_cells KR3.out
        have CO : Hid (Calls Try.prog 41 #[.chan (some c), .agg #[.int .i64 ri, .string rt]] w3 fun e w' => e = .returned (.bool false) ∧ Below w3.heap.size w3 w') := offer_no c (rs.map recV) ⟨ri, rt⟩ w3 HC3.out (by rw [List.length_map, HN.out]; omega)
        go_wp2_with fail
        refine CO.out.mono ?_
        rintro e w4 ⟨rfl, hb4⟩
        have KZ4 := Lib.hid (KZ3.out.below hb4 KZ3.out.lt)
        have KJ4 := Lib.hid (KJ3.out.below hb4 KJ3.out.lt)
        have HB4 : Hid (Below w.heap.size w w4) := HB3.out.trans (hb4.mono HB3.out.size)
        have HC4 : Hid (ChanAt w4 c (rs.map recV) false) := HC3.out.below hb4 HC3.out.lt
        clear hb4 CO r0 r1
        obtain ⟨j0, j1⟩ := jr_cells KJ4.out
        obtain ⟨z0, z1⟩ := jr_cells KZ4.out
        have zf := blk_frozen KZ4.out
        have CD : Hid (∀ U, ChanAt U c (rs.map recV) false → Calls Try.prog 42 #[.chan (some c)] U (Drained U c rs)) := fun U h => drain_any c rs U h (by rw [HLN.out]; omega)
        go_wp2_with fail
        refine wp_region_held_drew (S := (fun w' => w'.cell? ⟨w.heap.size, 0, none⟩ = some (.slice A n cap) ∧ w'.cell? ⟨w.heap.size, 1, none⟩ = some (.int .i64 s))) (by kernel_rfl) (⟨j0, j1⟩) (fun hHeld => ?_)
        refine wpAnyH_take (i := 0) (v := ?zv7) rfl (by kernel_rfl) (by kernel_rfl) (by kernel_rfl) (fun _ _ _ h => h) (Or.inl ⟨by kernel_rfl, ?zy7⟩) (by assumption) ?zr7
        case zy7 => (intro w hSw; (try dsimp only at hSw); go_simp; try with_reducible rfl)
        change wpAnyH _ _ _ _ _ _ _ (Act.put _ (some 23) _) _
        simp only [Act.put, List.setIfInBounds_toArray, List.set_cons_zero, List.set_cons_succ]
        refine wpAnyH_take (i := 2) (v := ?zv8) rfl (by kernel_rfl) (by kernel_rfl) (by kernel_rfl) (fun _ _ _ h => h) (Or.inl ⟨by kernel_rfl, ?zy8⟩) (by assumption) ?zr8
        case zy8 => (intro w hSw; (try dsimp only at hSw); go_simp; try with_reducible rfl)
        change wpAnyH _ _ _ _ _ _ _ (Act.put _ (some 25) _) _
        simp only [Act.put, List.setIfInBounds_toArray, List.set_cons_zero, List.set_cons_succ]
        refine wpAnyH_take (i := 3) (v := ?zv9) rfl (by kernel_rfl) (by kernel_rfl) (by kernel_rfl) (fun _ _ _ h => h) (Or.inl ⟨by kernel_rfl, ?zy9⟩) (by assumption) ?zr9
        case zy9 => (intro w hSw; (try dsimp only at hSw); go_simp; try with_reducible rfl)
        change wpAnyH _ _ _ _ _ _ _ (Act.put _ (some 26) _) _
        simp only [Act.put, List.setIfInBounds_toArray, List.set_cons_zero, List.set_cons_succ]
        refine wpAnyH_take (i := 5) (v := ?zv10) rfl (by kernel_rfl) (by kernel_rfl) (by kernel_rfl) (fun _ _ _ h => h) (Or.inl ⟨by kernel_rfl, ?zy10⟩) (by assumption) ?zr10
        case zy10 => (intro w hSw; (try dsimp only at hSw); go_simp; try with_reducible rfl)
        change wpAnyH _ _ _ _ _ _ _ (Act.put _ (some 28) _) _
        simp only [Act.put, List.setIfInBounds_toArray, List.set_cons_zero, List.set_cons_succ]
        refine wpAnyH_ready (rs := [1]) (by kernel_rfl) (by simp) (AllReadyH.cons rfl (fun K hK => ?_) AllReadyH.nil)
        go_simp
        go_at_call 42
        refine (CD.out _ HC4.out.drew).mono ?_
        rintro e w5 ⟨X, x, rfl, ho5, hg5⟩
        rw [HLN.out]
        have KZ5 := Lib.hid ((KZ4.out.drewN 1).grown hg5 (fun e => by injection e with e; omega))
        have KJ5 := Lib.hid ((KJ4.out.drewN 1).grown hg5 (fun e => by injection e with e; omega))
        have HB5 : Hid (Below w.heap.size w w5) := (below_drew HB4.out).grown hg5 HB4.out.size (fun i hi => by injection hi with hi; omega)
        have HO5 : Hid (OwnRow RK w5 w.heap.size X x rs) := ho5.base_le HB4.out.size
        clear ho5 hg5 j0 j1 z0 z1 zf
        obtain ⟨j0, j1⟩ := jr_cells KJ5.out
        obtain ⟨z0, z1⟩ := jr_cells KZ5.out
        have zf := blk_frozen KZ5.out
        refine hK.out _ _ (⟨j0, j1⟩) (fun hHeld => ?_)
        clear hK K
        (try simp only [Act.put, List.setIfInBounds_toArray, List.set_cons_zero, List.set_cons_succ])
        refine wpAnyH_take (i := 4) (v := ?zv11) rfl (by kernel_rfl) (by kernel_rfl) (by kernel_rfl) (fun _ _ _ h => h) (Or.inl ⟨by kernel_rfl, ?zy11⟩) (by assumption) ?zr11
        case zy11 => (intro w hSw; (try dsimp only at hSw); go_simp; try with_reducible rfl)
        change wpAnyH _ _ _ _ _ _ _ (Act.put _ (some 27) _) _
        simp only [Act.put, List.setIfInBounds_toArray, List.set_cons_zero, List.set_cons_succ]
        refine wpAnyH_ready (rs := [6]) (by kernel_rfl) (by simp) (AllReadyH.cons rfl (fun K hK => ?_) AllReadyH.nil)
        go_simp
        refine hK.out _ _ (jr_cells ((KJ5.out.setOther (p := ⟨w.heap.size + 1 + 1, 0, none⟩) (by show w.heap.size + 1 + 1 ≠ _; omega) _).setOther (p := ⟨w.heap.size + 1 + 1, 1, none⟩) (by show w.heap.size + 1 + 1 ≠ _; omega) _)) (fun hHeld => ?_)
        clear hK K
        (try simp only [Act.put])
        refine wpAnyH_take (i := 7) (v := ?zv12) rfl (by kernel_rfl) (by kernel_rfl) (by kernel_rfl) (fun _ _ _ h => h) (Or.inl ⟨by kernel_rfl, ?zy12⟩) (by assumption) ?zr12
        case zy12 => (intro w hSw; (try dsimp only at hSw); go_simp; try with_reducible rfl)
        change wpAnyH _ _ _ _ _ _ _ (Act.put _ (some 5) _) _
        simp only [Act.put, List.setIfInBounds_toArray, List.set_cons_zero, List.set_cons_succ]
        refine wpAnyH_done (by kernel_rfl) ?_ _
        go_wp2
        obtain ⟨Y, HY⟩ : ∃ Y, Hid ((w5.setCell ⟨w.heap.size + 1 + 1, 0, none⟩ (.slice X n x)).setCell ⟨w.heap.size + 1 + 1, 1, none⟩ (.int .i64 s) = Y) := ⟨_, rfl⟩
        have HBY : Hid (Below w.heap.size w Y) := by rw [← HY.out]; exact below_two HB5.out (by omega) _ _
        have KY : Hid (Blk Y (w.heap.size + 1 + 1) 29 #[.slice X n x, .int .i64 s]) := by rw [← HY.out]; exact blk_two KZ5.out _ _
        have HOY : Hid (OwnRow RK Y w.heap.size X x rs) := by rw [← HY.out]; exact rown_two HO5.out KZ5.out _ _
        rw [HY.out]
        obtain ⟨y0, y1⟩ := jr_cells KY.out
        exact bodyPost_ret (v := .tuple #[journalV X n x s, .bool false]) (by simp [results, Try.results16, go_sem, y0, y1]) rfl ⟨X, x, by rw [HLN.out], HOY.out, HFR.out, HBY.out⟩

end Go.Proofs.Ytmddfjfflgfdlaa
