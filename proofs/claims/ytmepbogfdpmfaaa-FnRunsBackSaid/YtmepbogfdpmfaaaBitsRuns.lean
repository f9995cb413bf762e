/- Contracts of BitsRuns (over runLengths, slices.Collect and slices.AppendSeq) and of its model: the lengths of the runs of the bits, or none if there are more than 16; nothing that was there is changed. Condition: the bits lie in memory. -/
import Derived.Test.YtmepbogfdpmfaaaRangeOut
import Derived.Test.YtmepbogfdpmfaaaBitsCount
import Derived.Maps.AppendAt
namespace Go.Proofs.Ytmepbogfdpmfaaa
open Go.RowKit Go.Shelf
set_option linter.unusedVariables false

section
attribute [local go_sem] Oper.semAt_some

set_option maxRecDepth 100000 in
set_option maxHeartbeats 4000000 in
/-- The iterator that runLengths hands back: the runs' lengths. -/
theorem lengths_makes (Bs n₀ : Nat) (A : Option Addr) (cap : Nat) (bs : List Bool) (hl : bs.length ≤ 16) (w : World) (hBs : Bs < w.heap.size) (hn₀ : n₀ ≤ w.heap.size)
    (hc : w.cell? ⟨Bs, 0, none⟩ = some (.slice A bs.length cap)) (hI : BoolsAt w n₀ A bs) :
    Makes Try.prog 37 #[.pointer (some ⟨Bs, 0, none⟩)] (fun x : Run => #[.int .i64 (x.len : Int)]) n₀ 56 (fun ys => ys.map Run.pair = runsL bs) (bs.length + 1) w := by
  intro n0 l J W hW hJ hY h0
  obtain ⟨n, hn⟩ : ∃ n, 3 ≤ n := ⟨3, Nat.le_refl _⟩
  have hcW := (hW.cell (p := ⟨Bs, 0, none⟩) hBs).trans hc
  have hIW := hI.below hW hn₀
  have hBsW : Bs < W.heap.size := Nat.lt_of_lt_of_le hBs hW.size
  have hnW : n₀ ≤ W.heap.size := Nat.le_trans hn₀ hW.size
  have HL := Lib.hid hl
  obtain ⟨m, HM⟩ : ∃ m, Hid (bs.length = m) := ⟨_, rfl⟩
  rw [HM.out] at hcW hl
  have HY := Lib.hid hY
  have HIW := Lib.hid hIW
  have HJ := Lib.hid hJ
  have HJ0 := Lib.hid h0
  clear hc hI hY hIW hJ h0 hW
  refine callsIn_wide.2 ((callsIn_wide (n := n)).1 ?_)
  have h1 : 1 ≤ n := by omega
  refine callsIn_of_wp_marks Try.func37 rfl trivial ?_ rfl
  simp only [Try.ntmps37, List.size_toArray, List.length_cons, List.length_nil, Nat.reduceAdd, Nat.reduceSub, Array.replicate_succ, Array.replicate_zero, List.push_toArray, List.append_toArray, List.nil_append, List.cons_append]
  gi_wp2_with (refine ⟨trivial, ?_⟩; gi_at_call 35; refine (runs_in _ _ _ _ _).mono ?_; rintro e w' ⟨rfl, rfl⟩)
  have bY := Boxed.new W 56 (.func (.yield l) #[] #[])
  have bN := Boxed.new (W.alloc (.cells #[.func (.yield l) #[] #[]] 56)) 23 (.slice A m cap)
  rw [World.size_alloc] at bN
  have hB0 : Below W.heap.size W ((W.alloc (.cells #[.func (.yield l) #[] #[]] 56)).alloc (.cells #[.slice A m cap] 23)) := ((Below.refl _ W).alloc (Nat.le_refl _) _).alloc (by simp) _
  refine wpIn_rangeFunc_ownG rfl h1 (gf := 41) (lb := #[.pointer (some ⟨W.heap.size + 1, 0, none⟩)]) rfl trivial (enters_of Try.func41 (by kernel_rfl) rfl)
    (runs_stops (n - 1) (by omega) (W.heap.size + 1) n₀ A cap bs HL.out _ (by simp) (by simp; omega) (by rw [HM.out]; exact bN.cell) (HIW.out.below hB0 hnW)) belowK_t (belowK_b (by simp; omega)) (Below.refl _ _) (fun _ => rfl)
    (fun pre V => Boxed V W.heap.size 56 (.func (.yield l) #[] #[]) ∧ J pre V)
    (fun _ _ _ => False)
    (OwnFrom.and (Own.from (boxed_own _ _ _) _) (own_mono HJ.out (by simp; omega)))
    (fun _ _ _ _ _ hs _ _ => hs)
    ⟨bY.alloc _, HJ.out.alloc _ (HJ.out.alloc _ HJ0.out)⟩
    (fun x => { tmps := #[.func (.yield l) #[] #[], .pointer (some ⟨Bs, 0, none⟩), .pointer (some ⟨W.heap.size, 0, none⟩), undef, .int .i64 (x.len : Int), .slice A m cap, .func (.func 41) #[] #[.pointer (some ⟨W.heap.size + 1, 0, none⟩)], .bool x.set, .int .i64 (x.len : Int), undef, undef, undef, undef], defers := [] }) ?assign ?body ?done ?stop
  case assign =>
    intro k x V K hK
    gi_wp2
    exact hK
  case body =>
    rintro k pre x V ⟨hb, hj⟩ hpre
    obtain ⟨fn, tmps, assign, body, hy, hR⟩ := HY.out (n - 1 - 1 - 1) pre x V hj hpre
    have hbc := hb.cell
    clear HY
    gi_wp2
    refine ⟨(fun h => by cases h), (round_inRound k hR).mono ?_⟩
    rintro e V3 ⟨rfl, hj3, hb3, hk3, hx3⟩
    clear hR hy
    gi_wp2
    exact ⟨KeepsFrom.mono hk3 (by simp; omega), hb3, hx3 _ _ (Nat.le_refl _) hb, hj3⟩
  case done =>
    rintro D ys V hD hys ⟨hb, hj⟩ hK
    gi_wp2
    refine ⟨by simp, .inl ⟨_, _, rfl, run_takeDeferred hK, ?_⟩⟩
    exact ⟨_, results_none rfl _ _ _, ⟨_, rfl⟩, ys, hys, HJ.out.putObj _ hj (by simp at hD; omega) hK rfl⟩
  case stop =>
    rintro D c pre V _ _ h _
    exact h.elim

set_option maxHeartbeats 1000000 in
theorem lengths_in (n : Nat) (v : Option Addr) (len cap : Nat) (w : World) :
    CallsIn Fence.wide n Try.prog 30 #[.slice v len cap] w fun e w' => e = .returned (.func (.func 37) #[] #[.pointer (some ⟨w.heap.size, 0, none⟩)]) ∧ w' = w.alloc (.cells #[.slice v len cap] 23) := by
  refine callsIn_of_wp Try.func30 rfl trivial ?_ rfl
  simp only [Try.ntmps30, List.size_toArray, List.length_cons, List.length_nil, Nat.reduceAdd, Nat.reduceSub, Array.replicate_succ, Array.replicate_zero, List.push_toArray, List.append_toArray, List.nil_append, List.cons_append]
  gi_wp2
  go_ret
  exact ⟨rfl, rfl⟩

/-- The lengths of runs, as integers. -/
def lensOf (rs : List Run) : List Int := rs.map fun r => (r.len : Int)
theorem lensOf_snoc (rs : List Run) (r : Run) : lensOf (rs ++ [r]) = lensOf rs ++ [(r.len : Int)] := by unfold lensOf; rw [List.map_append]; rfl
theorem lensOf_length (rs : List Run) : (lensOf rs).length = rs.length := List.length_map _

/-- What AppendSeq leaves. -/
def Collected (w : World) (zs : List Int) (e : Ending) (w' : World) : Prop :=
  ∃ v, e = .returned v ∧ w'.ownsRow w.heap.size 3 1 v zs.length (vals zs) ∧ Below w.heap.size w w'

set_option maxRecDepth 100000 in
set_option maxHeartbeats 4000000 in
theorem appendSeq_in (n : Nat) (hn : 3 ≤ n) (gf : Nat) (lb : Array Value) (eg : ∀ args w, (callFunc gf args).run Try.prog w = .ok (.enter gf args) w) (rs : List (Bool × Nat)) (N : Nat) (hN : N ≤ 17) (w : World)
    (hseq : ∀ W, Below w.heap.size w W → Makes Try.prog gf lb (fun x : Run => #[.int .i64 (x.len : Int)]) w.heap.size 56 (fun ys => ys.map Run.pair = rs) N W) :
    CallsIn Fence.wide n Try.prog 36 #[.slice none 0 0, .func (.func gf) #[] lb] w (Collected w (rs.map fun p => (p.2 : Int))) := by
  have h1 : 1 ≤ n := by omega
  obtain ⟨i0, hi, hz0, hz1, hz2⟩ := info_parts int_info
  refine callsIn_of_wp_marks Try.func36 rfl trivial ?_ rfl
  simp only [Try.ntmps36, List.size_toArray, List.length_cons, List.length_nil, Nat.reduceAdd, Nat.reduceSub, Array.replicate_succ, Array.replicate_zero, List.push_toArray, List.append_toArray, List.nil_append, List.cons_append]
  gi_wp2
  have bO := Boxed.new w 25 (.slice none 0 0)
  have hB0 : Below w.heap.size w (w.alloc (.cells #[.slice none 0 0] 25)) := (Below.refl _ w).alloc (Nat.le_refl _) _
  refine range_out h1 (gf := gf) (lb := lb) rfl eg (n₀ := w.heap.size) (by simp) (hseq _ hB0) (fun _ => rfl)
    (fun pre W => (∃ v, Boxed W w.heap.size 25 v ∧ W.ownsRow w.heap.size 3 1 v (lensOf pre).length (vals (lensOf pre)) ∧ True) ∧ Below w.heap.size w W)
    (OwnFrom.and (Own.from (holdsRow_own w.heap.size w.heap.size 25 3 1 (fun pre => (lensOf pre).length) (fun pre => vals (lensOf pre)) (fun _ _ => True)) _) (ownFrom_below (Nat.le_refl _) (by simp)))
    ⟨⟨_, bO, World.ownsRow_nil _ _ _ _, trivial⟩, hB0⟩
    (fun x => { tmps := #[.slice none 0 0, .func (.func gf) #[] lb, .pointer (some ⟨w.heap.size, 0, none⟩), undef, .slice none 0 0, .int .i64 (x.len : Int), .func (.func gf) #[] lb, .int .i64 (x.len : Int), undef, undef, undef, undef, undef], defers := [] }) ?assign ?body ?done
  case assign =>
    intro m l x W K hK
    gi_wp2
    exact hK
  case body =>
    rintro m l pre x W ⟨⟨v, hv, hrow, -⟩, hB⟩ hlt
    have hc := hv.cell
    have hpl := lensOf_length pre
    have hsn := lensOf_snoc pre x
    have hsz := hB.size
    obtain ⟨zs, HZ⟩ : ∃ zs, Hid (lensOf pre = zs) := ⟨_, rfl⟩
    rw [HZ.out] at hrow hpl hsn
    have HS := Lib.hid hsn
    have hz17 : zs.length ≤ 17 := by omega
    clear hsn hpl
    gi_wp2_with (gi_at_builtin; refine wpListIn_append_own _ rfl _ _ 25 rfl w.heap.size 3 i0 (.int .i64 0) 1 8 Try.underlying25 hi hz0 hz1 hz2 rfl (by decide) _ _ _ rfl (hrow.alloc _) ⟨W.heap.size, 0, none⟩ 1 1 [.int .i64 (x.len : Int)] rfl rfl (cell_one_new _ _ _) (by simp [Value.oneCell']) (by unfold maxLen; omega) (by omega) (by simp; omega) ?_; intro v' w1 hown' hgrow _; obtain ⟨g', cap', rfl⟩ := ownsRow_succ hown'; obtain ⟨hv1, hv2, hr2, hk2, hb2⟩ := hv.appended (by decide) hrow hB.size (Nat.le_refl _) hown' hgrow; have hc1 := hv1.cell; have hf1 := hv1.frozen)
    refine ⟨hk2.from _, hb2, ⟨⟨_, hv2, ?_, trivial⟩, hB.trans hb2⟩, ?_⟩
    · rw [HS.out, List.length_append, vals_append]
      exact hr2
    · intro k u hk hb
      have h1 : Boxed w1 k 56 u := (hb.alloc _).kept hgrow (hb.not_row (by decide) hrow)
      exact h1.kept (grownBy_setCell' _ _ _) (fun e => by injection e with e; simp at hk; omega)
  case done =>
    rintro D ys W hD hys ⟨⟨v, hv, hrow, -⟩, hB⟩ hK
    have hc := hv.cell
    have he : lensOf ys = rs.map fun p => (p.2 : Int) := by rw [← hys]; unfold lensOf; rw [List.map_map]; rfl
    rw [he] at hrow
    gi_wp2
    refine ⟨by simp, .inl ⟨_, _, rfl, run_takeDeferred hK, ?_⟩⟩
    exact ⟨_, results_tmp rfl _ _ _, v, rfl, ownsRow_putObj hrow _ hK rfl, hB.trans (belowK_b (w := w) (Nat.le_refl _) W D _ _ (by simp at hD; omega) hK rfl rfl)⟩

set_option maxHeartbeats 1000000 in
theorem collect_in (n : Nat) (hn : 4 ≤ n) (gf : Nat) (lb : Array Value) (eg : ∀ args w, (callFunc gf args).run Try.prog w = .ok (.enter gf args) w) (rs : List (Bool × Nat)) (N : Nat) (hN : N ≤ 17) (w : World)
    (hseq : ∀ W, Below w.heap.size w W → Makes Try.prog gf lb (fun x : Run => #[.int .i64 (x.len : Int)]) w.heap.size 56 (fun ys => ys.map Run.pair = rs) N W) :
    CallsIn Fence.wide n Try.prog 29 #[.func (.func gf) #[] lb] w (Collected w (rs.map fun p => (p.2 : Int))) := by
  have h1 : 1 ≤ n := by omega
  refine callsIn_of_wp Try.func29 rfl trivial ?_ rfl
  simp only [Try.ntmps29, List.size_toArray, List.length_cons, List.length_nil, Nat.reduceAdd, Nat.reduceSub, Array.replicate_succ, Array.replicate_zero, List.push_toArray, List.append_toArray, List.nil_append, List.cons_append]
  gi_wp2_with (refine ⟨trivial, ?_⟩; gi_at_call 36; refine (appendSeq_in (n - 1) (by omega) gf lb eg rs N hN _ hseq).mono ?_; rintro e w' ⟨v, rfl, hrow, hb⟩)
  go_ret
  exact ⟨v, rfl, hrow, hb⟩

end

/-- The lengths of the runs of bits. -/
def runsInts (bs : List Bool) : List Int := (runsL bs).map fun p => (p.2 : Int)
theorem runsInts_length (bs : List Bool) : (runsInts bs).length ≤ bs.length + 1 := by unfold runsInts; rw [List.length_map]; exact runsL_length bs
/-- What BitsRuns answers. -/
def runsOr (bs : List Bool) : List Int := if bs.length ≤ 16 then runsInts bs else []
theorem runsOr_yes {bs : List Bool} (h : bs.length ≤ 16) : runsOr bs = runsInts bs := if_pos h
theorem runsOr_no {bs : List Bool} (h : 16 < bs.length) : runsOr bs = [] := if_neg (by omega)
theorem runsOr_short (bs : List Bool) : (runsOr bs).length ≤ 17 := by
  unfold runsOr
  split
  · have := runsInts_length bs; omega
  · simp

theorem row_base_le {w : World} {base b : Nat} {e : TypeId} {size : Nat} {v : Value} {k : Nat} {xs : List Value} (h : w.ownsRow base e size v k xs) (hb : b ≤ base) : w.ownsRow b e size v k xs := by
  refine ⟨h.1, ?_⟩
  rcases h.2 with h0 | ⟨g, c, cur, hv, hg, hr⟩
  · exact .inl h0
  · exact .inr ⟨g, c, cur, hv, by omega, hr⟩
theorem retInts_of {w w' : World} {zs : List Int} {v : Value} (h : w'.ownsRow w.heap.size 3 1 v zs.length (vals zs)) (hb : Below w.heap.size w w') : RetInts w zs (.returned v) w' := by
  rcases h.2 with ⟨hv, hn⟩ | ⟨g, c, cur, hv, _⟩
  · refine ⟨none, 0, by rw [hv, hn], ?_, hb⟩
    unfold OwnInts
    rw [hn]
    rw [hv, hn] at h
    exact h
  · subst hv
    exact ⟨some ⟨g, 0, none⟩, c, rfl, h, hb⟩

set_option maxHeartbeats 1000000 in
theorem bitsRuns_yes (A : Option Addr) (cap : Nat) (bs : List Bool) (w : World) (hl : bs.length ≤ 16) (hI : BoolsAt w w.heap.size A bs) :
    Calls Try.prog 10 #[.slice A bs.length cap] w (RetInts w (runsInts bs)) := by
  have HI := Lib.hid hI
  have HL := Lib.hid hl
  clear hI
  obtain ⟨m, HM⟩ : ∃ m, Hid (bs.length = m) := ⟨_, rfl⟩
  rw [HM.out] at hl ⊢
  go_enter Try.func10, Try.ntmps10
  go_wp2_with (first
    | (go_at_call 28; refine (bitsValid_yes _ _ _ _ hl).mono ?_; rintro e w' ⟨rfl, rfl⟩)
    | (go_at_call 30; refine (callsIn_wide.1 (lengths_in 0 _ _ _ _)).mono ?_; rintro e w' ⟨rfl, rfl⟩))
  have bN := Boxed.new w 23 (.slice A m cap)
  refine (callsIn_wide.1 (collect_in 4 (Nat.le_refl _) 37 #[.pointer (some ⟨w.heap.size, 0, none⟩)] (enters_of Try.func37 (by kernel_rfl) rfl) (runsL bs) (bs.length + 1) (by rw [HM.out]; omega) (w.alloc (.cells #[.slice A m cap] 23)) (fun W hW => ?_))).mono ?_
  · exact lengths_makes w.heap.size _ A cap bs HL.out W (by have := hW.size; simp at this; omega) hW.size ((hW.cell (p := ⟨w.heap.size, 0, none⟩) (by simp)).trans (by rw [HM.out]; exact bN.cell)) ((HI.out.allocS _).below hW (Nat.le_refl _))
  · rintro e w' ⟨v, rfl, hrow, hb⟩
    have HR := Lib.hid hrow
    have HB := Lib.hid hb
    clear hrow hb bN
    go_wp2
    go_ret
    exact retInts_of (row_base_le HR.out (by simp)) (((Below.refl _ w).alloc (Nat.le_refl _) _).trans (HB.out.mono (by simp)))

set_option maxHeartbeats 400000 in
theorem bitsRuns_no (A : Option Addr) (len cap : Nat) (w : World) (h : 16 < len) :
    Calls Try.prog 10 #[.slice A len cap] w (RetInts w []) := by
  go_enter Try.func10, Try.ntmps10
  go_wp2_with (go_at_call 28; refine (bitsValid_no _ _ _ _ h).mono ?_; rintro e w' ⟨rfl, rfl⟩)
  go_ret
  exact ⟨_, 0, rfl, OwnInts.new w, (Below.refl _ _).alloc (Nat.le_refl _) _⟩

theorem bitsRuns_any (A : Option Addr) (cap : Nat) (bs : List Bool) (w : World) (hI : BoolsAt w w.heap.size A bs) :
    Calls Try.prog 10 #[.slice A bs.length cap] w (RetInts w (runsOr bs)) := by
  by_cases h : bs.length ≤ 16
  · rw [runsOr_yes h]; exact bitsRuns_yes A cap bs w h hI
  · rw [runsOr_no (by omega)]; exact bitsRuns_no A bs.length cap w (by omega)

end Go.Proofs.Ytmepbogfdpmfaaa
