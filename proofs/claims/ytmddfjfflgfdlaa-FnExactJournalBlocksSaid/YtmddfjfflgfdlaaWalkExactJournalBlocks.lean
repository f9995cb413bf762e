/- The walk of FnExactJournalBlocks: it returns true and changes nothing that was there. Condition: the arguments' cells lie in memory. -/
import Derived.Test.YtmddfjfflgfdlaaExactJour
import Derived.Test.YtmddfjfflgfdlaaSJBlocks
import Derived.Test.YtmddfjfflgfdlaaBaseD
namespace Go.Proofs.Ytmddfjfflgfdlaa
open Go.RowKit Go.Conc
set_option linter.unusedVariables false

theorem strs_block {w w' : World} {base : Nat} {A : Option Addr} {cap : Nat} {zs : List ByteArray} (h : OwnStrs w base A cap zs) (hk : ∀ g, A = some ⟨g, 0, none⟩ → w'.heap[g]? = w.heap[g]?) : OwnStrs w' base A cap zs := by
  refine ⟨h.1, ?_⟩
  rcases h.2 with h0 | ⟨g, c, cur, hv, hg, hgb, hr⟩
  · exact .inl h0
  · have hA : A = some ⟨g, 0, none⟩ := by injection hv
    exact .inr ⟨g, c, cur, hv, hg, (hk g hA).trans hgb, hr⟩
theorem strs_lt {w : World} {base g cap : Nat} {zs : List ByteArray} (h : OwnStrs w base (some ⟨g, 0, none⟩) cap zs) : base ≤ g ∧ g < w.heap.size := World.ownsRow.lt h g rfl
theorem bools_lt {w : World} {base g cap : Nat} {zs : List Bool} (h : OwnBools w base (some ⟨g, 0, none⟩) cap zs) : base ≤ g ∧ g < w.heap.size := World.ownsRow.lt h g rfl
/-- A row of texts and a row of bools do not lie in one block. -/
theorem two_rows {w : World} {b1 b2 g g' : Nat} {c1 c2 : Nat} {bs : List ByteArray} {hs : List Bool} (h1 : OwnStrs w b1 (some ⟨g, 0, none⟩) c1 bs) (h2 : OwnBools w b2 (some ⟨g', 0, none⟩) c2 hs) : g ≠ g' := by
  rintro rfl
  rcases h1.2 with ⟨hv, _⟩ | ⟨x, c, cur, hv, _, hb, _⟩
  · injection hv with hA _ _; cases hA
  · rcases h2.2 with ⟨hv2, _⟩ | ⟨y, c', cur', hv2, _, hb2, _⟩
    · injection hv2 with hA _ _; cases hA
    · injection hv with hA _ _
      injection hv2 with hA2 _ _
      injection hA with hA
      injection hA with hA _ _
      injection hA2 with hA2
      injection hA2 with hA2 _ _
      subst hA hA2
      rw [hb] at hb2
      injection hb2 with hb2
      injection hb2 with _ ht _
      exact absurd ht (by decide)
theorem eqs_same2 (A : Option Addr) (cap : Nat) (A1 : Option Addr) (cap1 : Nat) (xs : List ByteArray) (w : World) (hI : StrsAt w w.heap.size A xs) (hJ : StrsAt w w.heap.size A1 xs) (hm : xs.length ≤ maxLen) {n : Nat} (hn : xs.length = n) :
    Calls Try.prog 25 #[.slice A n cap, .slice A1 n cap1] w fun e w' => e = .returned (.bool true) ∧ Below w.heap.size w w' := by
  have h := eqs_any A cap xs A1 cap1 xs w hI hJ hm hm
  rw [hn] at h
  refine h.mono ?_
  rintro e w' ⟨rfl, q, rfl⟩
  exact ⟨by simp, below_drewN (Below.refl _ _) _⟩
theorem eqb_same2 (A : Option Addr) (cap : Nat) (A1 : Option Addr) (cap1 : Nat) (xs : List Bool) (w : World) (hI : BoolsAt w w.heap.size A xs) (hJ : BoolsAt w w.heap.size A1 xs) (hm : xs.length ≤ maxLen) {n : Nat} (hn : xs.length = n) :
    Calls Try.prog 26 #[.slice A n cap, .slice A1 n cap1] w fun e w' => e = .returned (.bool true) ∧ Below w.heap.size w w' := by
  have h := eqb_any A cap xs A1 cap1 xs w hI hJ hm hm
  rw [hn] at h
  refine h.mono ?_
  rintro e w' ⟨rfl, q, rfl⟩
  exact ⟨by simp, below_drewN (Below.refl _ _) _⟩
theorem heldb_same2 (A : Option Addr) (cap k0 n : Nat) (w : World) (hI : BoolsAt w w.heap.size A (bmarks k0 n)) (hm : n ≤ 1048576) (hk0 : k0 ≤ 2000000) :
    Calls Try.prog 30 #[.slice A n cap, .int .i64 (k0 : Int)] w fun e w' => e = .returned (.int .i64 ((k0 + n : Nat) : Int)) ∧ Below w.heap.size w w' :=
  (heldbk_any A cap k0 n w hI hm hk0).mono fun e w' ⟨he, q, hq⟩ => ⟨he, by rw [hq]; exact below_drewN (Below.refl _ _) _⟩
theorem blkA_len (rs : List RD) (s ln : Int) : (blkA rs s ln).length ≤ 16 := by
  unfold blkA
  split
  · rename_i h
    unfold blkOk at h
    rw [Bool.and_eq_true, decide_eq_true_eq] at h
    rw [blkS_length]; omega
  · exact Nat.zero_le _
theorem blkB_len (rs : List RD) (s ln : Int) : (blkB rs s ln).length ≤ 16 := by
  unfold blkB
  split
  · rename_i h
    unfold blkOk at h
    rw [Bool.and_eq_true, decide_eq_true_eq] at h
    rw [blkH_length]; omega
  · exact Nat.zero_le _

set_option maxHeartbeats 8000000 in
set_option maxRecDepth 100000 in
theorem walkExactJournalBlocks (A : Option Addr) (cap : Nat) (s : Int) (rs : List RD) (ln : Int) (w : World) (hI : RowAt RK w w.heap.size A rs) (hF : FitR rs) (hm : rs.length ≤ maxLen) :
    Calls Try.prog 7 #[journalV A rs.length cap s, .int .i64 ln] w fun e w' => e = .returned (.bool true) ∧ Below w.heap.size w w' := by
  have HLM0 := Lib.hid hm
  have HF := Lib.hid hF
  unfold maxLen at hm
  have HI := Lib.hid hI
  clear hI hF
  obtain ⟨n, HN⟩ : ∃ n, Hid (rs.length = n) := ⟨_, rfl⟩
  rw [HN.out] at hm ⊢
  obtain ⟨bsx, HA1⟩ : ∃ v, Hid (blkA rs s ln = v) := ⟨_, rfl⟩
  obtain ⟨hsx, HA2⟩ : ∃ v, Hid (blkB rs s ln = v) := ⟨_, rfl⟩
  obtain ⟨m1, HM1⟩ : ∃ v, Hid (bsx.length = v) := ⟨_, rfl⟩
  obtain ⟨m2, HM2⟩ : ∃ v, Hid (hsx.length = v) := ⟨_, rfl⟩
  have HMS1 : Hid (bsx.length ≤ 1048576) := by show _ ≤ _; rw [← HA1.out]; exact Nat.le_trans (blkA_len rs s ln) (by omega)
  have HMM1 : Hid (bsx.length ≤ maxLen) := by show _ ≤ _; have := HMS1.out; unfold maxLen; omega
  have HMS2 : Hid (hsx.length ≤ 1048576) := by show _ ≤ _; rw [← HA2.out]; exact Nat.le_trans (blkB_len rs s ln) (by omega)
  have HMM2 : Hid (hsx.length ≤ maxLen) := by show _ ≤ _; have := HMS2.out; unfold maxLen; omega
  have SPEC : Hid (∀ (A : Option Addr) (cap : Nat) (U : World), JAt U U.heap.size A cap rs → Calls Try.prog 23 #[journalV A n cap s, .int .i64 ln] U (RetB U bsx hsx)) := fun A cap U h => by
    have h := sjblocks_any A cap s ln rs U h
    rw [HA1.out, HA2.out, HN.out] at h
    exact h
  have IMPL : Hid (∀ (A : Option Addr) (cap : Nat) (U : World), JAt U U.heap.size A cap rs → Calls Try.prog 24 #[journalV A n cap s, .int .i64 ln] U (RetB U bsx hsx)) := fun A cap U h => by
    have h := jblocks_any A cap s ln rs U h
    rw [HA1.out, HA2.out, HN.out] at h
    exact h
  obtain ⟨w0, HW⟩ : ∃ Q0, Hid (w.alloc (.cells #[.slice A n cap, .int .i64 s] 24) = Q0) := ⟨_, rfl⟩
  have KB0 : Hid (Blk w0 w.heap.size 24 #[.slice A n cap, .int .i64 s]) := by rw [← HW.out]; exact Blk.new w _ _
  have HB0 : Hid (Below w.heap.size w w0) := by rw [← HW.out]; exact (Below.refl _ w).alloc (Nat.le_refl _) _
  have hkb : w.heap.size < w0.heap.size := KB0.out.lt
  have HI0 := Lib.hid (HI.out.belowS HB0.out)
  go_enter Try.func7, Try.ntmps7
  go_upto_region 1 with fail
  rw [HW.out]
  obtain ⟨kb0, kb1⟩ := jr_cells KB0.out
  go_wp2_with fail
  refine (szJ_any A cap s rs w0 HI0.out HF.out HLM0.out HN.out).mono ?_
  rintro e w1 ⟨q, rfl, hq0, hq1, hq2, hb1⟩
  have HI1 := Lib.hid (HI0.out.belowS hb1)
  have KB1 := Lib.hid (KB0.out.below hb1 KB0.out.lt)
  have HB1 : Hid (Below w.heap.size w w1) := HB0.out.trans (hb1.mono HB0.out.size)
  have hz1 : w0.heap.size ≤ w1.heap.size := hb1.size
  clear hb1
  clear kb0 kb1
  by_cases hq : q < 0
  · go_wp2
    go_ret
    exact ⟨rfl, HB1.out⟩
  · have hlen : n ≤ 1048576 := by have := hq2 (by omega); omega
    have HL : Hid (rs.length ≤ 1048576) := by show _ ≤ _; rw [HN.out]; exact hlen
    have HLM : Hid (rs.length ≤ maxLen) := HLM0
    obtain ⟨kb0, kb1⟩ := jr_cells KB1.out
    go_wp2_with fail
    refine (toJ_any A cap s rs w1 HI1.out HL.out HN.out).mono ?_
    rintro e w2 ⟨g2, rfl, ho2, hb2⟩
    have X2 := Lib.hid ho2
    have hg2 : w1.heap.size ≤ g2 ∧ g2 < w2.heap.size := ho2.lies _ rfl
    clear ho2
    have HI2 := Lib.hid (HI1.out.belowS hb2)
    have KB2 := Lib.hid (KB1.out.below hb2 KB1.out.lt)
    have HB2 : Hid (Below w.heap.size w w2) := HB1.out.trans (hb2.mono HB1.out.size)
    have hz2 : w1.heap.size ≤ w2.heap.size := hb2.size
    clear hb2
    clear kb0 kb1
    go_wp2_with fail
    refine (SPEC.out _ _ _ (own_jat X2.out HF.out)).mono ?_
    rintro e w3 ⟨s3, c3, b3, d3, rfl, ho3, hp3, hb3⟩
    rw [HM1.out, HM2.out]
    have RS3 := Lib.hid ho3
    have RT3 := Lib.hid hp3
    have hls3 : w2.heap.size ≤ s3 ∧ s3 < w3.heap.size := strs_lt ho3
    have hlb3 : w2.heap.size ≤ b3 ∧ b3 < w3.heap.size := bools_lt hp3
    have hsb3 : s3 ≠ b3 := two_rows ho3 hp3
    clear ho3 hp3
    have HI3 := Lib.hid (HI2.out.belowS hb3)
    have KB3 := Lib.hid (KB2.out.below hb3 KB2.out.lt)
    have X3 := Lib.hid (X2.out.below hb3)
    have HB3 : Hid (Below w.heap.size w w3) := HB2.out.trans (hb3.mono HB2.out.size)
    have hz3 : w2.heap.size ≤ w3.heap.size := hb3.size
    clear hb3
    obtain ⟨kb0, kb1⟩ := jr_cells KB3.out
    go_wp2_with fail
    refine (toJ_any A cap s rs w3 HI3.out HL.out HN.out).mono ?_
    rintro e w5 ⟨g5, rfl, ho5, hb5⟩
    have X5 := Lib.hid ho5
    have hg5 : w3.heap.size ≤ g5 ∧ g5 < w5.heap.size := ho5.lies _ rfl
    clear ho5
    have HI5 := Lib.hid (HI3.out.belowS hb5)
    have KB5 := Lib.hid (KB3.out.below hb5 KB3.out.lt)
    have RS5 := Lib.hid (RS3.out.below hb5)
    have RT5 := Lib.hid (RT3.out.below hb5)
    have HB5 : Hid (Below w.heap.size w w5) := HB3.out.trans (hb5.mono HB3.out.size)
    have hz5 : w3.heap.size ≤ w5.heap.size := hb5.size
    clear hb5
    clear kb0 kb1
    obtain ⟨kb0, kb1⟩ := jr_cells KB5.out
    obtain ⟨w6, HW6⟩ : ∃ Q0, Hid (w5.alloc (.cells #[.slice (some ⟨g5, 0, none⟩) n n, .int .i64 s] 29) = Q0) := ⟨_, rfl⟩
    have hb6 : Below w5.heap.size w5 w6 := by rw [← HW6.out]; exact (Below.refl _ _).alloc (Nat.le_refl _) _
    have LX6 : Hid (Blk w6 w5.heap.size 29 #[.slice (some ⟨g5, 0, none⟩) n n, .int .i64 s]) := by rw [← HW6.out]; exact Blk.new w5 _ _
    have hs6 : w5.heap.size < w6.heap.size := LX6.out.lt
    have HI6 := Lib.hid (HI5.out.belowS hb6)
    have KB6 := Lib.hid (KB5.out.below hb6 KB5.out.lt)
    have RS6 := Lib.hid (RS5.out.below hb6)
    have RT6 := Lib.hid (RT5.out.below hb6)
    have X6 := Lib.hid (X5.out.below hb6)
    have HB6 : Hid (Below w.heap.size w w6) := HB5.out.trans (hb6.mono HB5.out.size)
    have hz6 : w5.heap.size ≤ w6.heap.size := hb6.size
    clear hb6
    go_upto_region 7 with fail
    rw [HW6.out]
    clear kb0 kb1
    obtain ⟨lx0, lx1⟩ := jr_cells LX6.out
    go_wp2_with fail
    refine (IMPL.out _ _ _ (own_jat X6.out HF.out)).mono ?_
    rintro e w7 ⟨s7, c7, b7, d7, rfl, ho7, hp7, hb7⟩
    rw [HM1.out, HM2.out]
    have GS7 := Lib.hid ho7
    have GB7 := Lib.hid hp7
    have hls7 : w6.heap.size ≤ s7 ∧ s7 < w7.heap.size := strs_lt ho7
    have hlb7 : w6.heap.size ≤ b7 ∧ b7 < w7.heap.size := bools_lt hp7
    have hsb7 : s7 ≠ b7 := two_rows ho7 hp7
    clear ho7 hp7
    have HI7 := Lib.hid (HI6.out.belowS hb7)
    have KB7 := Lib.hid (KB6.out.below hb7 KB6.out.lt)
    have RS7 := Lib.hid (RS6.out.below hb7)
    have RT7 := Lib.hid (RT6.out.below hb7)
    have X7 := Lib.hid (X6.out.below hb7)
    have LX7 := Lib.hid (LX6.out.below hb7 LX6.out.lt)
    have HB7 : Hid (Below w.heap.size w w7) := HB6.out.trans (hb7.mono HB6.out.size)
    have hz7 : w6.heap.size ≤ w7.heap.size := hb7.size
    clear hb7
    clear lx0 lx1
    go_wp2_with fail
    refine (eqs_same2 _ c7 _ c3 bsx w7 GS7.out.ints RS7.out.ints HMM1.out HM1.out).mono ?_
    rintro e w8 ⟨rfl, hb8⟩
    have HI8 := Lib.hid (HI7.out.belowS hb8)
    have KB8 := Lib.hid (KB7.out.below hb8 KB7.out.lt)
    have RS8 := Lib.hid (RS7.out.below hb8)
    have RT8 := Lib.hid (RT7.out.below hb8)
    have X8 := Lib.hid (X7.out.below hb8)
    have LX8 := Lib.hid (LX7.out.below hb8 LX7.out.lt)
    have GS8 := Lib.hid (GS7.out.below hb8)
    have GB8 := Lib.hid (GB7.out.below hb8)
    have HB8 : Hid (Below w.heap.size w w8) := HB7.out.trans (hb8.mono HB7.out.size)
    have hz8 : w7.heap.size ≤ w8.heap.size := hb8.size
    clear hb8
    go_wp2_with fail
    refine (eqb_same2 _ d7 _ d3 hsx w8 GB8.out.ints RT8.out.ints HMM2.out HM2.out).mono ?_
    rintro e w9 ⟨rfl, hb9⟩
    have HI9 := Lib.hid (HI8.out.belowS hb9)
    have KB9 := Lib.hid (KB8.out.below hb9 KB8.out.lt)
    have RS9 := Lib.hid (RS8.out.below hb9)
    have RT9 := Lib.hid (RT8.out.below hb9)
    have X9 := Lib.hid (X8.out.below hb9)
    have LX9 := Lib.hid (LX8.out.below hb9 LX8.out.lt)
    have GS9 := Lib.hid (GS8.out.below hb9)
    have GB9 := Lib.hid (GB8.out.below hb9)
    have HB9 : Hid (Below w.heap.size w w9) := HB8.out.trans (hb9.mono HB8.out.size)
    have hz9 : w8.heap.size ≤ w9.heap.size := hb9.size
    clear hb9
    obtain ⟨lx0, lx1⟩ := jr_cells LX9.out
    obtain ⟨kb0, kb1⟩ := jr_cells KB9.out
    go_upto_region 10 with fail
    (try go_wp2_with fail)
    clear lx0 lx1 kb0 kb1
    refine wp_region_held_drew (S := (fun w' => (w'.cell? ⟨w5.heap.size, 0, none⟩ = some (.slice (some ⟨g5, 0, none⟩) n n) ∧ w'.cell? ⟨w5.heap.size, 1, none⟩ = some (.int .i64 s)) ∧ (w'.cell? ⟨w.heap.size, 0, none⟩ = some (.slice A n cap) ∧ w'.cell? ⟨w.heap.size, 1, none⟩ = some (.int .i64 s)))) (by kernel_rfl) (⟨jr_cells LX9.out, jr_cells KB9.out⟩) (fun hHeld => ?_)
    refine wpAnyH_take (i := 0) (v := ?zv91001) rfl (by kernel_rfl) (by kernel_rfl) (by kernel_rfl) (fun _ _ _ h => h) (Or.inl ⟨by kernel_rfl, ?zy91001⟩) (by assumption) ?zr91001
    case zy91001 => (intro w hSw; (try dsimp only at hSw); go_simp; try with_reducible rfl)
    change wpAnyH _ _ _ _ _ _ _ (Act.put _ (some 46) _) _
    simp only [Act.put, List.setIfInBounds_toArray, List.set_cons_zero, List.set_cons_succ]
    refine wpAnyH_take (i := 1) (v := ?zv91002) rfl (by kernel_rfl) (by kernel_rfl) (by kernel_rfl) (fun _ _ _ h => h) (Or.inl ⟨by kernel_rfl, ?zy91002⟩) (by assumption) ?zr91002
    case zy91002 => (intro w hSw; (try dsimp only at hSw); go_simp; try with_reducible rfl)
    change wpAnyH _ _ _ _ _ _ _ (Act.put _ (some 47) _) _
    simp only [Act.put, List.setIfInBounds_toArray, List.set_cons_zero, List.set_cons_succ]
    refine wpAnyH_ready (rs := [2]) (by kernel_rfl) (by simp) (AllReadyH.cons rfl (fun K hK => ?_) AllReadyH.nil)
    go_simp
    go_at_call 10
    refine (toJ_any A cap s rs _ (HI9.out.drewN 1) HL.out HN.out).mono ?_
    rintro e w10 ⟨g10, rfl, ho10, hbd⟩
    have hb10 : Below w9.heap.size w9 w10 := below_drew_l hbd
    have T10 : Hid (OwnRow RK w10 w9.heap.size (some ⟨g10, 0, none⟩) n rs) := ho10
    clear hbd ho10
    have HI10 := Lib.hid (HI9.out.belowS hb10)
    have KB10 := Lib.hid (KB9.out.below hb10 KB9.out.lt)
    have RS10 := Lib.hid (RS9.out.below hb10)
    have RT10 := Lib.hid (RT9.out.below hb10)
    have X10 := Lib.hid (X9.out.below hb10)
    have LX10 := Lib.hid (LX9.out.below hb10 LX9.out.lt)
    have GS10 := Lib.hid (GS9.out.below hb10)
    have GB10 := Lib.hid (GB9.out.below hb10)
    have HB10 : Hid (Below w.heap.size w w10) := HB9.out.trans (hb10.mono HB9.out.size)
    have hz10 : w9.heap.size ≤ w10.heap.size := hb10.size
    clear hb10
    refine hK.out _ _ (⟨jr_cells LX10.out, jr_cells KB10.out⟩) (fun hHeld => ?_)
    clear hK K
    (try simp only [Act.put, List.setIfInBounds_toArray, List.set_cons_zero, List.set_cons_succ])
    refine wpAnyH_ready (rs := [3]) (by kernel_rfl) (by simp) (AllReadyH.cons rfl (fun K hK => ?_) AllReadyH.nil)
    go_simp
    go_at_call 12
    refine (eqJ_any _ n _ n s rs w10 X10.out.at_ T10.out.at_ HLM.out HN.out).mono ?_
    rintro e w11 ⟨rfl, hb11⟩
    have HI11 := Lib.hid (HI10.out.belowS hb11)
    have KB11 := Lib.hid (KB10.out.below hb11 KB10.out.lt)
    have RS11 := Lib.hid (RS10.out.below hb11)
    have RT11 := Lib.hid (RT10.out.below hb11)
    have X11 := Lib.hid (X10.out.below hb11)
    have LX11 := Lib.hid (LX10.out.below hb11 LX10.out.lt)
    have GS11 := Lib.hid (GS10.out.below hb11)
    have GB11 := Lib.hid (GB10.out.below hb11)
    have T11 := Lib.hid (T10.out.below hb11)
    have HB11 : Hid (Below w.heap.size w w11) := HB10.out.trans (hb11.mono HB10.out.size)
    have hz11 : w10.heap.size ≤ w11.heap.size := hb11.size
    clear hb11
    refine hK.out _ _ (⟨jr_cells LX11.out, jr_cells KB11.out⟩) (fun hHeld => ?_)
    clear hK K
    (try simp only [Act.put, List.setIfInBounds_toArray, List.set_cons_zero, List.set_cons_succ])
    refine wpAnyH_take (i := 4) (v := ?zv91003) rfl (by kernel_rfl) (by kernel_rfl) (by kernel_rfl) (fun _ _ _ h => h) (Or.inl ⟨by kernel_rfl, ?zy91003⟩) (by assumption) ?zr91003
    case zy91003 => (intro w hSw; (try dsimp only at hSw); go_simp; try with_reducible rfl)
    change wpAnyH _ _ _ _ _ _ _ (Act.put _ (some 50) _) _
    simp only [Act.put, List.setIfInBounds_toArray, List.set_cons_zero, List.set_cons_succ]
    refine wpAnyH_done (by kernel_rfl) ?_ _
    obtain ⟨lx0, lx1⟩ := jr_cells LX11.out
    go_wp2_with fail
    refine (markJ_any _ _ _ s rs w11 X11.out HL.out HN.out).mono ?_
    rintro e w12 hm12
    obtain ⟨hb12, hk12⟩ := marked2_other X11.out hm12 (by omega)
    obtain ⟨rfl, -, -, -⟩ := hm12
    clear lx0 lx1
    have RS12 := Lib.hid (strs_block RS11.out (fun g hA => hk12 g (by injection hA with hA; injection hA with hA _ _; omega) (fun g' hA' => by injection hA with hA; injection hA with hA _ _; injection hA' with hA'; injection hA' with hA' _ _; omega)))
    have RT12 := Lib.hid (ownb_block RT11.out (fun g hA => hk12 g (by injection hA with hA; injection hA with hA _ _; omega) (fun g' hA' => by injection hA with hA; injection hA with hA _ _; injection hA' with hA'; injection hA' with hA' _ _; omega)))
    have GS12 := Lib.hid (strs_block GS11.out (fun g hA => hk12 g (by injection hA with hA; injection hA with hA _ _; omega) (fun g' hA' => by injection hA with hA; injection hA with hA _ _; injection hA' with hA'; injection hA' with hA' _ _; omega)))
    have GB12 := Lib.hid (ownb_block GB11.out (fun g hA => hk12 g (by injection hA with hA; injection hA with hA _ _; omega) (fun g' hA' => by injection hA with hA; injection hA with hA _ _; injection hA' with hA'; injection hA' with hA' _ _; omega)))
    have KB12 : Hid (Blk w12 w.heap.size 24 #[.slice A n cap, .int .i64 s]) := (hk12 _ KB11.out.lt (fun g' hA' => by injection hA' with hA'; injection hA' with hA' _ _; omega)).trans KB11.out
    have HB12 : Hid (Below w.heap.size w w12) := HB11.out.trans (hb12.mono (by omega))
    have HI12 := Lib.hid (HI.out.belowS HB12.out)
    have hz12 : w11.heap.size ≤ w12.heap.size := hb12.size
    clear hb12 hk12
    have hk1 : ¬ (((1 + 2 * n : Nat) : Int) < 0) := by omega
    go_wp2_with fail
    refine (eqs_same2 _ c7 _ c3 bsx w12 GS12.out.ints RS12.out.ints HMM1.out HM1.out).mono ?_
    rintro e w13 ⟨rfl, hb13⟩
    have HI13 := Lib.hid (HI12.out.belowS hb13)
    have KB13 := Lib.hid (KB12.out.below hb13 KB12.out.lt)
    have RS13 := Lib.hid (RS12.out.below hb13)
    have RT13 := Lib.hid (RT12.out.below hb13)
    have GS13 := Lib.hid (GS12.out.below hb13)
    have GB13 := Lib.hid (GB12.out.below hb13)
    have HB13 : Hid (Below w.heap.size w w13) := HB12.out.trans (hb13.mono HB12.out.size)
    have hz13 : w12.heap.size ≤ w13.heap.size := hb13.size
    clear hb13
    go_wp2_with fail
    refine (eqb_same2 _ d7 _ d3 hsx w13 GB13.out.ints RT13.out.ints HMM2.out HM2.out).mono ?_
    rintro e w14 ⟨rfl, hb14⟩
    have HI14 := Lib.hid (HI13.out.belowS hb14)
    have KB14 := Lib.hid (KB13.out.below hb14 KB13.out.lt)
    have RS14 := Lib.hid (RS13.out.below hb14)
    have RT14 := Lib.hid (RT13.out.below hb14)
    have GS14 := Lib.hid (GS13.out.below hb14)
    have GB14 := Lib.hid (GB13.out.below hb14)
    have HB14 : Hid (Below w.heap.size w w14) := HB13.out.trans (hb14.mono HB13.out.size)
    have hz14 : w13.heap.size ≤ w14.heap.size := hb14.size
    clear hb14
    have CM := Lib.hid (marks_any _ _ c7 1 bsx w14 GS14.out HMS1.out (by omega) (by omega))
    rw [HM1.out] at CM
    go_wp2_with fail
    refine CM.out.mono ?_
    rintro e w15 ⟨rfl, ho15, hg15, -⟩
    have hgg := hg15 s7 rfl
    have hk15 : ∀ i, i < w14.heap.size → i ≠ s7 → w15.heap[i]? = w14.heap[i]? := fun i hi hne => hgg.block i hi (fun e => hne (by injection e))
    have hb15 : Below w6.heap.size w14 w15 := (Below.refl _ _).grown hgg (by omega) (fun k hk => by injection hk with hk; omega)
    have KB15 : Hid (Blk w15 w.heap.size 24 #[.slice A n cap, .int .i64 s]) := (hb15.block _ (by omega)).trans KB14.out
    have HB15 : Hid (Below w.heap.size w w15) := HB14.out.trans (hb15.mono (by omega))
    have HI15 := Lib.hid (HI.out.belowS HB15.out)
    have hz15 : w14.heap.size ≤ w15.heap.size := hb15.size
    have RS15 := Lib.hid (strs_block RS14.out (fun g hA => hk15 g (by injection hA with hA; injection hA with hA _ _; omega) (by injection hA with hA; injection hA with hA _ _; omega)))
    have RT15 := Lib.hid (ownb_block RT14.out (fun g hA => hk15 g (by injection hA with hA; injection hA with hA _ _; omega) (by injection hA with hA; injection hA with hA _ _; omega)))
    have MS15 := Lib.hid ho15
    have GB15 := Lib.hid (ownb_block GB14.out (fun g hA => hk15 g (by injection hA with hA; injection hA with hA _ _; omega) (by injection hA with hA; injection hA with hA _ _; omega)))
    clear hb15 hk15 hgg hg15 ho15 CM
    have hm1 : m1 ≤ 16 := by rw [← HM1.out, ← HA1.out]; exact blkA_len _ _ _
    have hm2 : m2 ≤ 16 := by rw [← HM2.out, ← HA2.out]; exact blkB_len _ _ _
    have CM := Lib.hid (markb_any _ _ d7 (1 + m1) hsx w15 GB15.out HMS2.out (by omega))
    rw [HM2.out] at CM
    go_wp2_with fail
    refine CM.out.mono ?_
    rintro e w16 ⟨rfl, ho16, hg16, -⟩
    have hgg := hg16 b7 rfl
    have hk16 : ∀ i, i < w15.heap.size → i ≠ b7 → w16.heap[i]? = w15.heap[i]? := fun i hi hne => hgg.block i hi (fun e => hne (by injection e))
    have hb16 : Below w6.heap.size w15 w16 := (Below.refl _ _).grown hgg (by omega) (fun k hk => by injection hk with hk; omega)
    have KB16 : Hid (Blk w16 w.heap.size 24 #[.slice A n cap, .int .i64 s]) := (hb16.block _ (by omega)).trans KB15.out
    have HB16 : Hid (Below w.heap.size w w16) := HB15.out.trans (hb16.mono (by omega))
    have HI16 := Lib.hid (HI.out.belowS HB16.out)
    have hz16 : w15.heap.size ≤ w16.heap.size := hb16.size
    have RS16 := Lib.hid (strs_block RS15.out (fun g hA => hk16 g (by injection hA with hA; injection hA with hA _ _; omega) (by injection hA with hA; injection hA with hA _ _; omega)))
    have RT16 := Lib.hid (ownb_block RT15.out (fun g hA => hk16 g (by injection hA with hA; injection hA with hA _ _; omega) (by injection hA with hA; injection hA with hA _ _; omega)))
    have MB16 := Lib.hid ho16
    have MS16 := Lib.hid (strs_block MS15.out (fun g hA => hk16 g (by injection hA with hA; injection hA with hA _ _; omega) (by injection hA with hA; injection hA with hA _ _; omega)))
    clear hb16 hk16 hgg hg16 ho16 CM
    have hq5 : ¬ (((1 + m1 : Nat) : Int) < 0) := by omega
    have hq6 : ¬ (((1 + m1 + m2 : Nat) : Int) < 0) := by omega
    have hq7 : ((((1 + m1 + m2 : Nat) : Int)) != ((1 + m1 + m2 : Nat) : Int)) = false := by simp
    go_wp2_with fail
    refine (helds_any _ c7 1 m1 w16 MS16.out.ints (by omega) (by omega) (by omega)).mono ?_
    rintro e w17 ⟨rfl, hb17⟩
    have HI17 := Lib.hid (HI16.out.belowS hb17)
    have KB17 := Lib.hid (KB16.out.below hb17 KB16.out.lt)
    have RS17 := Lib.hid (RS16.out.below hb17)
    have RT17 := Lib.hid (RT16.out.below hb17)
    have MS17 := Lib.hid (MS16.out.below hb17)
    have MB17 := Lib.hid (MB16.out.below hb17)
    have HB17 : Hid (Below w.heap.size w w17) := HB16.out.trans (hb17.mono HB16.out.size)
    have hz17 : w16.heap.size ≤ w17.heap.size := hb17.size
    clear hb17
    go_wp2_with fail
    refine (heldb_same2 _ d7 (1 + m1) m2 w17 MB17.out.ints (by omega) (by omega)).mono ?_
    rintro e w18 ⟨rfl, hb18⟩
    have HI18 := Lib.hid (HI17.out.belowS hb18)
    have KB18 := Lib.hid (KB17.out.below hb18 KB17.out.lt)
    have RS18 := Lib.hid (RS17.out.below hb18)
    have RT18 := Lib.hid (RT17.out.below hb18)
    have MS18 := Lib.hid (MS17.out.below hb18)
    have MB18 := Lib.hid (MB17.out.below hb18)
    have HB18 : Hid (Below w.heap.size w w18) := HB17.out.trans (hb18.mono HB17.out.size)
    have hz18 : w17.heap.size ≤ w18.heap.size := hb18.size
    clear hb18
    obtain ⟨kb0, kb1⟩ := jr_cells KB18.out
    go_wp2_with fail
    refine (toJ_any A cap s rs w18 HI18.out HL.out HN.out).mono ?_
    rintro e w19 ⟨g19, rfl, ho19, hb19⟩
    have X19 := Lib.hid ho19
    have hg19 : w18.heap.size ≤ g19 ∧ g19 < w19.heap.size := ho19.lies _ rfl
    clear ho19
    have HI19 := Lib.hid (HI18.out.belowS hb19)
    have KB19 := Lib.hid (KB18.out.below hb19 KB18.out.lt)
    have RS19 := Lib.hid (RS18.out.below hb19)
    have RT19 := Lib.hid (RT18.out.below hb19)
    have MS19 := Lib.hid (MS18.out.below hb19)
    have MB19 := Lib.hid (MB18.out.below hb19)
    have HB19 : Hid (Below w.heap.size w w19) := HB18.out.trans (hb19.mono HB18.out.size)
    have hz19 : w18.heap.size ≤ w19.heap.size := hb19.size
    clear hb19
    clear kb0 kb1
    go_wp2_with fail
    refine (IMPL.out _ _ _ (own_jat X19.out HF.out)).mono ?_
    rintro e w20 ⟨s20, c20, b20, d20, rfl, ho20, hp20, hb20⟩
    rw [HM1.out, HM2.out]
    have HS20 := Lib.hid ho20
    have HT20 := Lib.hid hp20
    have hls20 : w19.heap.size ≤ s20 ∧ s20 < w20.heap.size := strs_lt ho20
    have hlb20 : w19.heap.size ≤ b20 ∧ b20 < w20.heap.size := bools_lt hp20
    have hsb20 : s20 ≠ b20 := two_rows ho20 hp20
    clear ho20 hp20
    have HI20 := Lib.hid (HI19.out.belowS hb20)
    have KB20 := Lib.hid (KB19.out.below hb20 KB19.out.lt)
    have RS20 := Lib.hid (RS19.out.below hb20)
    have RT20 := Lib.hid (RT19.out.below hb20)
    have MS20 := Lib.hid (MS19.out.below hb20)
    have MB20 := Lib.hid (MB19.out.below hb20)
    have X20 := Lib.hid (X19.out.below hb20)
    have HB20 : Hid (Below w.heap.size w w20) := HB19.out.trans (hb20.mono HB19.out.size)
    have hz20 : w19.heap.size ≤ w20.heap.size := hb20.size
    clear hb20
    go_wp2_with fail
    refine (eqs_same2 _ c20 _ c3 bsx w20 HS20.out.ints RS20.out.ints HMM1.out HM1.out).mono ?_
    rintro e w21 ⟨rfl, hb21⟩
    have HI21 := Lib.hid (HI20.out.belowS hb21)
    have KB21 := Lib.hid (KB20.out.below hb21 KB20.out.lt)
    have RS21 := Lib.hid (RS20.out.below hb21)
    have RT21 := Lib.hid (RT20.out.below hb21)
    have MS21 := Lib.hid (MS20.out.below hb21)
    have MB21 := Lib.hid (MB20.out.below hb21)
    have HS21 := Lib.hid (HS20.out.below hb21)
    have HT21 := Lib.hid (HT20.out.below hb21)
    have HB21 : Hid (Below w.heap.size w w21) := HB20.out.trans (hb21.mono HB20.out.size)
    have hz21 : w20.heap.size ≤ w21.heap.size := hb21.size
    clear hb21
    go_wp2_with fail
    refine (eqb_same2 _ d20 _ d3 hsx w21 HT21.out.ints RT21.out.ints HMM2.out HM2.out).mono ?_
    rintro e w22 ⟨rfl, hb22⟩
    have HI22 := Lib.hid (HI21.out.belowS hb22)
    have KB22 := Lib.hid (KB21.out.below hb22 KB21.out.lt)
    have RS22 := Lib.hid (RS21.out.below hb22)
    have RT22 := Lib.hid (RT21.out.below hb22)
    have MS22 := Lib.hid (MS21.out.below hb22)
    have MB22 := Lib.hid (MB21.out.below hb22)
    have HS22 := Lib.hid (HS21.out.below hb22)
    have HT22 := Lib.hid (HT21.out.below hb22)
    have HB22 : Hid (Below w.heap.size w w22) := HB21.out.trans (hb22.mono HB21.out.size)
    have hz22 : w21.heap.size ≤ w22.heap.size := hb22.size
    clear hb22
    go_wp2_with fail
    refine (helds_any _ c7 1 m1 w22 MS22.out.ints (by omega) (by omega) (by omega)).mono ?_
    rintro e w23 ⟨rfl, hb23⟩
    have HI23 := Lib.hid (HI22.out.belowS hb23)
    have KB23 := Lib.hid (KB22.out.below hb23 KB22.out.lt)
    have RS23 := Lib.hid (RS22.out.below hb23)
    have RT23 := Lib.hid (RT22.out.below hb23)
    have MS23 := Lib.hid (MS22.out.below hb23)
    have MB23 := Lib.hid (MB22.out.below hb23)
    have HS23 := Lib.hid (HS22.out.below hb23)
    have HT23 := Lib.hid (HT22.out.below hb23)
    have HB23 : Hid (Below w.heap.size w w23) := HB22.out.trans (hb23.mono HB22.out.size)
    have hz23 : w22.heap.size ≤ w23.heap.size := hb23.size
    clear hb23
    go_wp2_with fail
    refine (heldb_same2 _ d7 (1 + m1) m2 w23 MB23.out.ints (by omega) (by omega)).mono ?_
    rintro e w24 ⟨rfl, hb24⟩
    have HI24 := Lib.hid (HI23.out.belowS hb24)
    have KB24 := Lib.hid (KB23.out.below hb24 KB23.out.lt)
    have RS24 := Lib.hid (RS23.out.below hb24)
    have RT24 := Lib.hid (RT23.out.below hb24)
    have MS24 := Lib.hid (MS23.out.below hb24)
    have MB24 := Lib.hid (MB23.out.below hb24)
    have HS24 := Lib.hid (HS23.out.below hb24)
    have HT24 := Lib.hid (HT23.out.below hb24)
    have HB24 : Hid (Below w.heap.size w w24) := HB23.out.trans (hb24.mono HB23.out.size)
    have hz24 : w23.heap.size ≤ w24.heap.size := hb24.size
    clear hb24
    go_wp2
    go_ret
    exact ⟨rfl, HB24.out⟩

end Go.Proofs.Ytmddfjfflgfdlaa
