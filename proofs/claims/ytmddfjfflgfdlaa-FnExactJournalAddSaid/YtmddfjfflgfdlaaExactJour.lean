/- Contracts of the exact laws' helpers over journals: the copy, the size, the comparison of equal ones, the marks and what still holds them. Conditions: they lie in memory; marked are at most 2^20 records. -/
import Derived.Test.YtmddfjfflgfdlaaExactRecs
namespace Go.Proofs.Ytmddfjfflgfdlaa
open Go.RowKit Go.Conc
set_option linter.unusedVariables false

theorem grown_setG (w : World) (g : Nat) (o : Nat) (u : Value) : w.grownBy (w.setCell ⟨g, o, none⟩ u) (some g) :=
  ⟨rfl, rfl, rfl, by simp [World.setCell], fun i _ hne => Below.heap_setCell w ⟨g, o, none⟩ u i (fun e => hne (by rw [e]))⟩

set_option maxHeartbeats 4000000 in
set_option maxRecDepth 100000 in
theorem toJ_any (A : Option Addr) (cap : Nat) (s : Int) (rs : List RD) (w : World) (hI : RowAt RK w w.heap.size A rs) (hm : rs.length ≤ 1048576) {n : Nat} (hn : rs.length = n) :
    Calls Try.prog 10 #[journalV A n cap s] w fun e w' => ∃ g, e = .returned (journalV (some ⟨g, 0, none⟩) n n s) ∧ OwnRow RK w' w.heap.size (some ⟨g, 0, none⟩) n rs ∧ Below w.heap.size w w' := by
  have HN := Lib.hid hn
  obtain ⟨W, HW⟩ : ∃ Q0, Hid (((w.alloc (.cells #[.slice A n cap, .int .i64 s] 24)).alloc (.cells #[.slice none 0 0, .int .i64 0] 29)).alloc (.cells #[.slice none 0 0, .int .i64 0] 29) = Q0) := ⟨_, rfl⟩
  have KA : Hid (Blk W w.heap.size 24 #[.slice A n cap, .int .i64 s]) := by rw [← HW.out]; exact ((Blk.new w _ _).alloc _).alloc _
  have KZ : Hid (Blk W (w.heap.size + 1) 29 #[.slice none 0 0, .int .i64 0]) := by
    rw [← HW.out]
    have h := Blk.new (w.alloc (.cells #[.slice A n cap, .int .i64 s] 24)) 29 #[.slice none 0 0, .int .i64 0]
    rw [World.size_alloc] at h
    exact h.alloc _
  have KO : Hid (Blk W (w.heap.size + 1 + 1) 29 #[.slice none 0 0, .int .i64 0]) := by
    rw [← HW.out]
    have h := Blk.new ((w.alloc (.cells #[.slice A n cap, .int .i64 s] 24)).alloc (.cells #[.slice none 0 0, .int .i64 0] 29)) 29 #[.slice none 0 0, .int .i64 0]
    rw [World.size_alloc, World.size_alloc] at h
    exact h
  have HB : Hid (Below w.heap.size w W) := by rw [← HW.out]; exact (((Below.refl _ w).alloc (Nat.le_refl _) _).alloc (by simp) _).alloc (by simp; omega) _
  have HI : Hid (RowAt RK W W.heap.size A rs) := hI.belowS HB.out
  have CT := Lib.hid (toRs_ret A cap rs W HI.out hm)
  rw [hn] at CT
  clear hI hn
  obtain ⟨g1, hg1⟩ : ∃ v, w.heap.size + 1 = v := ⟨_, rfl⟩
  obtain ⟨g2, hg2⟩ : ∃ v, w.heap.size + 1 + 1 = v := ⟨_, rfl⟩
  rw [hg1] at KZ
  rw [hg2] at KO
  have hgg : g1 + 1 = g2 := by omega
  have hwz : g2 < W.heap.size := KO.out.lt
  obtain ⟨a0, a1⟩ := jr_cells KA.out
  go_enter Try.func10, Try.ntmps10
  go_upto_region 2 with fail
  rw [HW.out]
  go_wp2_with fail
  refine CT.out.mono ?_
  rintro e w1 ⟨g, rfl, ho1, hb1⟩
  have HO1 := Lib.hid ho1
  have KA1 := Lib.hid (KA.out.below hb1 KA.out.lt)
  have KZ1 := Lib.hid (KZ.out.below hb1 KZ.out.lt)
  have KO1 := Lib.hid (KO.out.below hb1 KO.out.lt)
  have HB1 : Hid (Below w.heap.size w w1) := HB.out.trans (hb1.mono HB.out.size)
  clear hb1 ho1 a0 a1
  obtain ⟨o0, o1⟩ := jr_cells KO1.out
  have of := blk_frozen KO1.out
  go_upto_region 3 with fail
  obtain ⟨W1, HW1⟩ : ∃ Q0, Hid (w1.setCell ⟨g2, 0, none⟩ (.slice (some ⟨g, 0, none⟩) n n) = Q0) := ⟨_, rfl⟩
  have KO2 : Hid (Blk W1 g2 29 #[.slice (some ⟨g, 0, none⟩) n n, .int .i64 0]) := by rw [← HW1.out]; exact KO1.out.setOwn 0 _
  have KA2 : Hid (Blk W1 w.heap.size 24 #[.slice A n cap, .int .i64 s]) := by rw [← HW1.out]; exact KA1.out.setOther (p := ⟨g2, 0, none⟩) (by show g2 ≠ _; omega) _
  have KZ2 : Hid (Blk W1 g1 29 #[.slice none 0 0, .int .i64 0]) := by rw [← HW1.out]; exact KZ1.out.setOther (p := ⟨g2, 0, none⟩) (by show g2 ≠ _; omega) _
  have HO2 : Hid (OwnRow RK W1 W.heap.size (some ⟨g, 0, none⟩) n rs) := by rw [← HW1.out]; exact HO1.out.keep (grown_setG w1 g2 0 _) (fun k hk => by injection hk with hk; omega)
  have HB2 : Hid (Below w.heap.size w W1) := by rw [← HW1.out]; exact HB1.out.setCell (p := ⟨g2, 0, none⟩) (by show w.heap.size ≤ g2; omega) _
  rw [HW1.out]
  clear o0 o1 of
  obtain ⟨a0, a1⟩ := jr_cells KA2.out
  obtain ⟨o0, o1⟩ := jr_cells KO2.out
  have of := blk_frozen KO2.out
  go_upto_region 4 with fail
  obtain ⟨W2, HW2⟩ : ∃ Q0, Hid (W1.setCell ⟨g2, 1, none⟩ (.int .i64 s) = Q0) := ⟨_, rfl⟩
  have KO3 : Hid (Blk W2 g2 29 #[.slice (some ⟨g, 0, none⟩) n n, .int .i64 s]) := by rw [← HW2.out]; exact KO2.out.setOwn 1 _
  have KZ3 : Hid (Blk W2 g1 29 #[.slice none 0 0, .int .i64 0]) := by rw [← HW2.out]; exact KZ2.out.setOther (p := ⟨g2, 1, none⟩) (by show g2 ≠ _; omega) _
  have HO3 : Hid (OwnRow RK W2 W.heap.size (some ⟨g, 0, none⟩) n rs) := by rw [← HW2.out]; exact HO2.out.keep (grown_setG W1 g2 1 _) (fun k hk => by injection hk with hk; omega)
  have HB3 : Hid (Below w.heap.size w W2) := by rw [← HW2.out]; exact HB2.out.setCell (p := ⟨g2, 1, none⟩) (by show w.heap.size ≤ g2; omega) _
  rw [HW2.out]
  clear a0 a1 o0 o1 of
  obtain ⟨o0, o1⟩ := jr_cells KO3.out
  obtain ⟨z0, z1⟩ := jr_cells KZ3.out
  have zf := blk_frozen KZ3.out
  go_wp2
  obtain ⟨Y, HY⟩ : ∃ Q0, Hid ((W2.setCell ⟨g1, 0, none⟩ (.slice (some ⟨g, 0, none⟩) n n)).setCell ⟨g1, 1, none⟩ (.int .i64 s) = Q0) := ⟨_, rfl⟩
  have KY : Hid (Blk Y g1 29 #[.slice (some ⟨g, 0, none⟩) n n, .int .i64 s]) := by rw [← HY.out]; exact (KZ3.out.setOwn 0 _).setOwn 1 _
  have HOY : Hid (OwnRow RK Y W.heap.size (some ⟨g, 0, none⟩) n rs) := by rw [← HY.out]; exact (HO3.out.keep (grown_setG W2 g1 0 _) (fun k hk => by injection hk with hk; omega)).keep (grown_setG _ g1 1 _) (fun k hk => by injection hk with hk; omega)
  have HBY : Hid (Below w.heap.size w Y) := by rw [← HY.out]; exact (HB3.out.setCell (p := ⟨g1, 0, none⟩) (by show w.heap.size ≤ g1; omega) _).setCell (p := ⟨g1, 1, none⟩) (by show w.heap.size ≤ g1; omega) _
  rw [HY.out]
  obtain ⟨y0, y1⟩ := jr_cells KY.out
  exact bodyPost_ret (v := journalV (some ⟨g, 0, none⟩) n n s) (by simp [results, Try.results10, go_sem, y0, y1]) rfl ⟨g, rfl, HOY.out.base_le HB.out.size, HBY.out⟩

set_option maxHeartbeats 4000000 in
set_option maxRecDepth 100000 in
theorem szJ_any (A : Option Addr) (cap : Nat) (s : Int) (rs : List RD) (w : World) (hI : RowAt RK w w.heap.size A rs) (hf : FitR rs) (hm : rs.length ≤ maxLen) {n : Nat} (hn : rs.length = n) :
    Calls Try.prog 8 #[journalV A n cap s, .int .i64 1048576] w (SzR 1048576 n w) := by
  obtain ⟨W, HW⟩ : ∃ Q0, Hid (w.alloc (.cells #[.slice A n cap, .int .i64 s] 24) = Q0) := ⟨_, rfl⟩
  have KA : Hid (Blk W w.heap.size 24 #[.slice A n cap, .int .i64 s]) := by rw [← HW.out]; exact Blk.new w _ _
  have HB : Hid (Below w.heap.size w W) := by rw [← HW.out]; exact (Below.refl _ w).alloc (Nat.le_refl _) _
  obtain ⟨a0, a1⟩ := jr_cells KA.out
  have CS := Lib.hid (szRs_any A cap rs 1048576 W (hI.belowS HB.out) hf hm (by omega) (by omega))
  rw [hn] at CS
  clear hI hf hm hn
  go_enter Try.func8, Try.ntmps8
  go_upto_region 1 with fail
  rw [HW.out]
  go_wp2_with fail
  refine CS.out.mono ?_
  rintro e w1 ⟨q, rfl, hq0, hq1, hq2, hb1⟩
  have HB1 : Hid (Below w.heap.size w w1) := HB.out.trans (hb1.mono HB.out.size)
  clear hb1 a0 a1
  by_cases hq : q < 0
  · go_wp2
    go_ret
    exact ⟨-1, rfl, by omega, by omega, fun h => absurd h (by omega), HB1.out⟩
  · go_wp2
    go_ret
    exact ⟨q, rfl, hq0, hq1, hq2, HB1.out⟩

set_option maxHeartbeats 4000000 in
set_option maxRecDepth 100000 in
theorem eqJ_any (A : Option Addr) (c : Nat) (A1 : Option Addr) (c1 : Nat) (s : Int) (rs : List RD) (w : World) (hJ : RowAt RK w w.heap.size A rs) (hJ1 : RowAt RK w w.heap.size A1 rs) (hm : rs.length ≤ maxLen) {n : Nat} (hn : rs.length = n) :
    Calls Try.prog 12 #[journalV A n c s, journalV A1 n c1 s] w fun e w' => e = .returned (.bool true) ∧ Below w.heap.size w w' := by
  obtain ⟨W, HW⟩ : ∃ Q0, Hid ((w.alloc (.cells #[.slice A n c, .int .i64 s] 29)).alloc (.cells #[.slice A1 n c1, .int .i64 s] 29) = Q0) := ⟨_, rfl⟩
  have KA : Hid (Blk W w.heap.size 29 #[.slice A n c, .int .i64 s]) := by rw [← HW.out]; exact (Blk.new w _ _).alloc _
  have KB : Hid (Blk W (w.heap.size + 1) 29 #[.slice A1 n c1, .int .i64 s]) := by
    rw [← HW.out]
    have h := Blk.new (w.alloc (.cells #[.slice A n c, .int .i64 s] 29)) 29 #[.slice A1 n c1, .int .i64 s]
    rw [World.size_alloc] at h
    exact h
  have HB : Hid (Below w.heap.size w W) := by rw [← HW.out]; exact ((Below.refl _ w).alloc (Nat.le_refl _) _).alloc (by simp) _
  have CE := Lib.hid (eqRs_any A c A1 c1 rs W (hJ.belowS HB.out) (hJ1.belowS HB.out) hm hn)
  clear hJ hJ1 hn hm
  obtain ⟨a0, a1⟩ := jr_cells KA.out
  obtain ⟨b0, b1⟩ := jr_cells KB.out
  have hz := KB.out.lt
  go_enter Try.func12, Try.ntmps12
  go_upto_region 1 with fail
  rw [HW.out]
  go_wp2_with fail
  refine CE.out.mono ?_
  rintro e w1 ⟨rfl, hb1⟩
  have KA1 := Lib.hid (KA.out.below hb1 KA.out.lt)
  have KB1 := Lib.hid (KB.out.below hb1 KB.out.lt)
  have HB1 : Hid (Below w.heap.size w w1) := HB.out.trans (hb1.mono HB.out.size)
  clear hb1 a0 a1 b0 b1
  obtain ⟨a0, a1⟩ := jr_cells KA1.out
  obtain ⟨b0, b1⟩ := jr_cells KB1.out
  have hss : (s != s) = false := by simp
  go_wp2
  go_ret
  exact ⟨rfl, HB1.out⟩

set_option maxHeartbeats 4000000 in
set_option maxRecDepth 100000 in
theorem markJ_any (base : Nat) (A : Option Addr) (cap : Nat) (s : Int) (rs : List RD) (w : World) (hO : OwnRow RK w base A cap rs) (hm : rs.length ≤ 1048576) {n : Nat} (hn : rs.length = n) :
    Calls Try.prog 17 #[journalV A n cap s, .int .i64 1] w (Marked2 RK w base A cap n (rmarks n)) := by
  obtain ⟨W, HW⟩ : ∃ Q0, Hid (w.alloc (.cells #[.slice A n cap, .int .i64 s] 29) = Q0) := ⟨_, rfl⟩
  have KA : Hid (Blk W w.heap.size 29 #[.slice A n cap, .int .i64 s]) := by rw [← HW.out]; exact Blk.new w _ _
  have HB : Hid (Below w.heap.size w W) := by rw [← HW.out]; exact (Below.refl _ w).alloc (Nat.le_refl _) _
  obtain ⟨a0, a1⟩ := jr_cells KA.out
  have CM := Lib.hid (markR_any base A cap rs W (by rw [← HW.out]; exact hO.alloc _) hm)
  rw [hn] at CM
  have HG : Hid (∀ row, w.grownBy W row) := fun row => by rw [← HW.out]; exact ⟨rfl, rfl, rfl, by simp, fun i hi _ => Below.heap_alloc w _ i hi⟩
  clear hO hm hn
  go_enter Try.func17, Try.ntmps17
  go_upto_region 1 with fail
  rw [HW.out]
  go_wp2_with fail
  refine CM.out.mono ?_
  rintro e w1 ⟨rfl, ho1, hg1, hn1⟩
  have HO1 := Lib.hid ho1
  have HG1 : Hid (∀ b, A = some ⟨b, 0, none⟩ → w.grownBy w1 (some b)) := fun b hb => World.grownBy.trans (HG.out _) (hg1 b hb)
  have HN1 : Hid (A = none → Below w.heap.size w w1) := fun h => HB.out.trans ((hn1 h).mono HB.out.size)
  clear ho1 hg1 hn1 a0 a1
  go_wp2
  go_ret
  exact ⟨rfl, HO1.out, HG1.out, HN1.out⟩

set_option maxHeartbeats 4000000 in
set_option maxRecDepth 100000 in
theorem heldJ_any (A : Option Addr) (cap n : Nat) (s : Int) (w : World) (hI : RowAt RK w w.heap.size A (rmarks n)) (hm : n ≤ 1048576) :
    Calls Try.prog 18 #[journalV A n cap s, .int .i64 1] w fun e w' => e = .returned (.int .i64 ((1 + 2 * n : Nat) : Int)) ∧ Below w.heap.size w w' := by
  obtain ⟨W, HW⟩ : ∃ Q0, Hid (w.alloc (.cells #[.slice A n cap, .int .i64 s] 29) = Q0) := ⟨_, rfl⟩
  have KA : Hid (Blk W w.heap.size 29 #[.slice A n cap, .int .i64 s]) := by rw [← HW.out]; exact Blk.new w _ _
  have HB : Hid (Below w.heap.size w W) := by rw [← HW.out]; exact (Below.refl _ w).alloc (Nat.le_refl _) _
  obtain ⟨a0, a1⟩ := jr_cells KA.out
  have CH := Lib.hid (heldR_any A cap n W (hI.belowS HB.out) hm)
  have hq : ¬ (((1 + 2 * n : Nat) : Int) < 0) := by omega
  clear hI
  obtain ⟨q, hqq⟩ : ∃ q, ((1 + 2 * n : Nat) : Int) = q := ⟨_, rfl⟩
  rw [hqq] at CH hq ⊢
  go_enter Try.func18, Try.ntmps18
  go_upto_region 1 with fail
  rw [HW.out]
  go_wp2_with fail
  refine CH.out.mono ?_
  rintro e w1 ⟨rfl, hb1⟩
  have HB1 : Hid (Below w.heap.size w w1) := HB.out.trans (hb1.mono HB.out.size)
  clear hb1 a0 a1
  go_wp2
  go_ret
  exact ⟨rfl, HB1.out⟩

theorem syncR_len2 (rs : List RD) (s : Int) : (syncR rs s).length ≤ 20 := by
  unfold syncR
  split
  · rename_i h; exact ((jokB_iff _ _).1 h).1
  · exact Nat.zero_le _
theorem crashR_len (rs : List RD) (s kp : Int) : (crashR rs s kp).length ≤ 20 := by
  unfold crashR
  split
  · rename_i h
    have := ((jokB_iff _ _).1 h.1).1
    rw [List.length_take]; omega
  · exact Nat.zero_le _
theorem addR_len2 (rs : List RD) (s : Int) (r : RD) : (addR rs s r).length ≤ 20 := by
  unfold addR
  split
  · rename_i h
    have := ((jokB_iff _ _).1 h.1).1
    split
    · rw [List.length_append, List.length_singleton]; omega
    · exact this
  · exact Nat.zero_le _

end Go.Proofs.Ytmddfjfflgfdlaa
