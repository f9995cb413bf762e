/- Contracts of l91Fork and DrawForkCheck: a proof of a fork, whatever its numbers; the reader moves on; nothing else that was there is changed. Condition: the code's bytes lie in memory. -/
import Derived.Test.YtkicfneikbiklaaFork
import Derived.Test.YtkicfneikbiklaaDrawBlocks
import Derived.Test.YtkicfneikbiklaaBaseC
import Derived.Test.YtkicfneikbiklaaBaseE
import Derived.Test.YtkicfneikbiklaaBaseA
import Derived.Test.YtkicfneikbiklaaBaseD
import Derived.Test.YtkicfneikbiklaaBaseH
import Derived.Deep.DeepCutAuto
namespace Go.Proofs.Ytkicfneikbiklaa
open Go.RowKit
set_option linter.unusedVariables false

theorem Blk.frozen7 {w : World} {g : Nat} {t : TypeId} {cs : Array Value} (h : Blk w g t cs) (i : Nat) : w.frozen? ⟨g, i, none⟩ = false := by
  unfold Blk at h
  simp [World.frozen?, h]
/-- What a draw of a fork's proof hands back. -/
def ForkRead (w : World) (B g : Nat) (A : Option Addr) (len cap p : Nat) (e : Ending) (w' : World) : Prop :=
  ∃ k a b c x y z q, e = .returned (forkV k a b c x y z) ∧ q ≤ p + 200 ∧ Rd w' B g A len cap q ∧ w.grownBy w' (some g)
/-- Seven cells of one block are written. -/
theorem blk_seven {W : World} {g : Nat} {t : TypeId} {u0 u1 u2 u3 u4 u5 u6 : Value} (h : Blk W g t #[u0, u1, u2, u3, u4, u5, u6]) (v0 v1 v2 v3 v4 v5 v6 : Value) : Blk (((((((W.setCell ⟨g, 0, none⟩ v0).setCell ⟨g, 1, none⟩ v1).setCell ⟨g, 2, none⟩ v2).setCell ⟨g, 3, none⟩ v3).setCell ⟨g, 4, none⟩ v4).setCell ⟨g, 5, none⟩ v5).setCell ⟨g, 6, none⟩ v6) g t #[v0, v1, v2, v3, v4, v5, v6] := by
  have h0 : Blk _ g t #[v0, u1, u2, u3, u4, u5, u6] := h.setOwn 0 v0
  have h1 : Blk _ g t #[v0, v1, u2, u3, u4, u5, u6] := h0.setOwn 1 v1
  have h2 : Blk _ g t #[v0, v1, v2, u3, u4, u5, u6] := h1.setOwn 2 v2
  have h3 : Blk _ g t #[v0, v1, v2, v3, u4, u5, u6] := h2.setOwn 3 v3
  have h4 : Blk _ g t #[v0, v1, v2, v3, v4, u5, u6] := h3.setOwn 4 v4
  have h5 : Blk _ g t #[v0, v1, v2, v3, v4, v5, u6] := h4.setOwn 5 v5
  have h6 : Blk _ g t #[v0, v1, v2, v3, v4, v5, v6] := h5.setOwn 6 v6
  exact h6
theorem below_seven {W w : World} {B g : Nat} (h : Below B w W) (hg : B ≤ g) (v0 v1 v2 v3 v4 v5 v6 : Value) : Below B w (((((((W.setCell ⟨g, 0, none⟩ v0).setCell ⟨g, 1, none⟩ v1).setCell ⟨g, 2, none⟩ v2).setCell ⟨g, 3, none⟩ v3).setCell ⟨g, 4, none⟩ v4).setCell ⟨g, 5, none⟩ v5).setCell ⟨g, 6, none⟩ v6) :=
  (below_six h hg v0 v1 v2 v3 v4 v5).setCell (p := ⟨g, 6, none⟩) hg v6

/-- Where the draw stands: the result's block, the first list, the second list. -/
structure Fk (w : World) (B g : Nat) (A : Option Addr) (len cap q : Nat) (bX c : Nat) (zs : List Int) (K : Nat) (Y : Option Addr) (e : Nat) (ys : List Int) (wx : World) : Prop where
  rd : Rd wx B g A len cap q
  grown : w.grownBy wx (some g)
  blk : Blk wx w.heap.size 32 (forkC 0 0 0 0 0 0 0)
  own1 : OwnInts wx (w.heap.size + 1) (some ⟨bX, 0, none⟩) c zs
  own2 : OwnInts wx K Y e ys
  lt : bX < K
  far : w.heap.size + 1 ≤ K
  top : K ≤ wx.heap.size
section
variable {w w1 w2 : World} {B g len cap q q' bX c K e : Nat} {A Y : Option Addr} {zs ys : List Int}
theorem Fk.pick (h : Fk w B g A len cap q bX c zs K Y e ys w1) (hgw : g < w.heap.size) (hR : Rd w2 B g A len cap q') (hg : w1.grownBy w2 (some g)) : Fk w B g A len cap q' bX c zs K Y e ys w2 :=
  ⟨hR, World.grownBy.trans h.grown hg, h.blk.grown hg (fun e => by injection e with e; omega), h.own1.keep hg (fun k hk => by injection hk with hk; omega), h.own2.keep hg (fun k hk => by injection hk with hk; have := h.far; omega), h.lt, h.far, Nat.le_trans h.top hg.size⟩
theorem Fk.below (h : Fk w B g A len cap q bX c zs K Y e ys w1) (hgw : g < w.heap.size) (hb : Below w1.heap.size w1 w2) : Fk w B g A len cap q bX c zs K Y e ys w2 :=
  ⟨h.rd.keep (fun i hi => hb.block i (by have := h.rd.lt; have := h.rd.big; omega)) (hb.block g h.rd.lt), grown_then h.grown (hb.mono h.grown.size), h.blk.below hb h.blk.lt, h.own1.below hb, h.own2.below hb, h.lt, h.far, Nat.le_trans h.top hb.size⟩
theorem Fk.put {Yb : Nat} (h : Fk w B g A len cap q bX c zs K (some ⟨Yb, 0, none⟩) e ys w1) (hgw : g < w.heap.size) (hgB : B ≤ g) (j : Nat) (x : Int) : Fk w B g A len cap q bX c zs K (some ⟨Yb, 0, none⟩) e (ys.set j x) (w1.setCell ⟨Yb, j, none⟩ (.int .i64 x)) := by
  have hk := own_lt h.own2 Yb rfl
  have h1 := h.lt
  have h2 := h.far
  refine ⟨h.rd.setOther (q := ⟨Yb, j, none⟩) (by show B ≤ Yb; omega) (by show Yb ≠ g; omega) _, grown_far h.grown (grown_set _ Yb j _) (fun k hk' => by injection hk' with hk'; omega), h.blk.setOther (p := ⟨Yb, j, none⟩) (by show Yb ≠ w.heap.size; omega) _, own_block h.own1 fun y hy => Below.heap_setCell w1 ⟨Yb, j, none⟩ _ y (by injection hy with hy; injection hy with hy _ _; show y ≠ Yb; omega), h.own2.stored j x, h.lt, h.far, by have := h.top; simpa [World.setCell] using this⟩
end

set_option maxRecDepth 100000 in
theorem run_app_nothing (W : World) (ty b c bc : Nat) (B : Option Addr) : (Builtin.append_ #[25, 25] ty #[.slice (some ⟨b, 0, none⟩) 0 c, .slice B 0 bc]).run Try.prog W = .ok (.slice (some ⟨b, 0, none⟩) 0 c) W := by
  obtain ⟨i0, hi0, hz0, hz1, hz2⟩ := info_parts int_info
  cases B with
  | none => simp [Builtin.append_, run_underlying Try.underlying25, sizeOf, typeInfo, hi0, Builtin.lenOf, Builtin.firstCells, storeCells]
  | some ad => simp [Builtin.append_, run_underlying Try.underlying25, sizeOf, typeInfo, hi0, Builtin.lenOf, Builtin.firstCells, storeCells, loadCells, loadCellsFrom]
theorem wpList_app_nothing {ops : Array Oper} {rest : List Oper} {o : Oper} {a : Act} {Q : Exit → Act → World → Prop} (hgd : o.guard = none) (s x : Operand) (ho : o.op = .call { callee := .builtin .append, args := #[s, x], argTypes := #[25, 25] })
    (W : World) (b c : Nat) (hs : a.eval s = .slice (some ⟨b, 0, none⟩) 0 c) (B : Option Addr) (bc : Nat) (hx : a.eval x = .slice B 0 bc)
    (h : wpList Try.prog ops Q rest (a.put o.dst (.slice (some ⟨b, 0, none⟩) 0 c)) W) : wpList Try.prog ops Q (o :: rest) a W :=
  wpList_plain hgd fun K hK => by
    have hrun := run_app_nothing W o.type b c bc B
    unfold Oper.wp execOp
    simp only [ho, resolve, invoke, builtin, Sem.run_bind, Sem.run_pure, Result.andThen_ok, List.map_toArray, List.map_cons, List.map_nil, hs, hx, hrun]
    exact hK _ _ h

set_option maxHeartbeats 8000000 in
set_option maxRecDepth 100000 in
theorem drawfork_any {B g len cap p : Nat} {A : Option Addr} {w : World} (hR : Rd w B g A len cap p) (hp : p ≤ 50000) :
    Calls Try.prog 24 #[.pointer (some ⟨g, 0, none⟩)] w (ForkRead w B g A len cap p) := by
  have HR := Lib.hid hR
  have hgw := hR.lt
  have hgB := hR.big
  clear hR
  go_enter Try.func24, Try.ntmps24
  go_wp2_with fail
  refine (drawgood_any (HR.out.alloc _) (by omega)).mono ?_
  rintro e w1 ⟨sec, q1, hs0, hs1, hq1, rfl, hR1, hg1⟩
  have HR1 := Lib.hid hR1
  have HG1 : Hid (w.grownBy w1 (some g)) := World.grownBy.trans (grown_of_alloc w _ _) hg1
  have K1 : Hid (Blk w1 w.heap.size 32 (forkC 0 0 0 0 0 0 0)) := (Blk.new w 32 (forkC 0 0 0 0 0 0 0)).grown hg1 (fun e => by injection e with e; omega)
  have hz1 : w.heap.size + 1 ≤ w1.heap.size := K1.out.lt
  clear hR1 hg1
  go_wp2_with fail
  refine (leavesdraw_any HR1.out (by omega)).mono ?_
  rintro e w2 ⟨X, c, zs, q2, rfl, hl, hq2, hD⟩
  obtain ⟨bX, hX⟩ := hD.some_
  subst hX
  have HD := Lib.hid hD
  have HG2 : Hid (w.grownBy w2 (some g)) := World.grownBy.trans HG1.out hD.grown
  have K2 : Hid (Blk w2 w.heap.size 32 (forkC 0 0 0 0 0 0 0)) := K1.out.grown hD.grown (fun e => by injection e with e; omega)
  have hz2 : w1.heap.size ≤ w2.heap.size := hD.size
  clear hD
  obtain ⟨n, HN⟩ : ∃ n, Hid (zs.length = n) := ⟨_, rfl⟩
  rw [HN.out] at hl ⊢
  have HF2 : Hid (∀ w3, Below w2.heap.size w2 w3 → ∀ Y e3, OwnInts w3 w2.heap.size Y e3 zs → Fk w B g A len cap q2 bX c zs w2.heap.size Y e3 zs w3) := fun w3 hb Y e3 ho =>
    ⟨HD.out.rd.keep (fun i hi => hb.block i (by have := HD.out.rd.lt; have := HD.out.rd.big; omega)) (hb.block g HD.out.rd.lt), grown_then HG2.out (hb.mono HG2.out.size), K2.out.below hb K2.out.lt, (HD.out.own.below hb).base_le hz1, ho, (own_lt HD.out.own bX rfl).2, by omega, hb.size⟩
  clear K2 K1 HG1 HG2
  go_upto_region 3 with fail
  go_cut [5] (fun s5 wx => ∃ (Y e3 : Nat), s5 = .slice (some ⟨Y, 0, none⟩) n e3 ∧ Hid (Fk w B g A len cap q2 bX c zs w2.heap.size (some ⟨Y, 0, none⟩) e3 zs wx))
  case first =>
    by_cases hn0 : n = 0
    · subst hn0
      have HNL : Hid (zs = []) := List.eq_nil_of_length_eq_zero HN.out
      go_wp2_with (at_builtin; refine wpList_app_nothing rfl (.tmp 11) (.tmp 12) rfl _ w2.heap.size 0 rfl _ c rfl ?_)
      go_meet
      exact ⟨w2.heap.size, 0, rfl, HF2.out _ ((Below.refl _ w2).alloc (Nat.le_refl _) _) _ _ (by rw [HNL.out]; exact OwnInts.new w2)⟩
    · go_wp2_with (at_builtin; refine wpList_app_ints rfl (.tmp 11) (.tmp 12) rfl _ w2.heap.size _ _ [] rfl (some ⟨bX, 0, none⟩) c zs (by rw [HN.out]; rfl) (OwnInts.new w2) (HD.out.own.ints.allocS _) (by rw [HN.out]; simp; omega) (by simp) (by intro e; cases e) ?_; intro v w3 hA; rw [List.nil_append] at hA; obtain ⟨⟨Y, e3, rfl, ho3⟩, hg3, hb3⟩ := hA; have HF3 := Lib.hid (HF2.out w3 (((Below.refl _ w2).alloc (Nat.le_refl _) _).trans hb3) Y e3 ho3); obtain ⟨y, hY⟩ := OwnInts.some_ ho3 (by rw [HN.out]; omega); subst hY; clear ho3 hg3 hb3; rw [HN.out])
      go_meet
      exact ⟨y, e3, rfl, HF3⟩
  case rest =>
  obtain ⟨Y, e3, rfl, HF3⟩ := hcut
  clear HF2
  go_upto_region 4 with fail
  go_cut [21] (fun s21 wx => ∃ (R : Bool) (q : Nat), s21 = .bool R ∧ q ≤ q2 + 1 ∧ (R = true → 0 < n) ∧ Hid (Fk w B g A len cap q bX c zs w2.heap.size (some ⟨Y, 0, none⟩) e3 zs wx))
  case first =>
    by_cases hn0 : n = 0
    · subst hn0
      go_wp2_with fail
      go_meet
      exact ⟨false, q2, rfl, by omega, (fun e => by cases e), HF3⟩
    · have hnp : (0 : Int) < (n : Int) := by omega
      have hnd : decide (0 < n) = true := by simp; omega
      go_wp2_with fail
      refine (pick_any 5 HF3.out.rd (by omega) (by omega) (by omega)).mono ?_
      rintro e w4 ⟨t, ht, rfl, hR4, hg4, hz4⟩
      have HF4 := Lib.hid (HF3.out.pick hgw hR4 hg4)
      clear hR4 hg4 hz4
      go_wp2_with fail
      go_meet
      exact ⟨decide (0 < t), _, by simp, by omega, (fun _ => by omega), HF4⟩
  case rest =>
  obtain ⟨R, q, rfl, hq, hR0, HF⟩ := hcut
  clear HF3
  go_upto_if 21 with fail
  go_cut [] (fun wx => ∃ (ys : List Int) (q' : Nat), q' ≤ q2 + 3 ∧ Hid (ys.length = n) ∧ Hid (Fk w B g A len cap q' bX c zs w2.heap.size (some ⟨Y, 0, none⟩) e3 ys wx))
  case first =>
    cases R with
    | false =>
      go_wp2_with fail
      go_meet
      exact ⟨zs, q, by omega, HN, HF⟩
    | true =>
      have hn0 := hR0 rfl
      go_wp2_with fail
      refine (pick_any n HF.out.rd (by omega) (by omega) (by omega)).mono ?_
      rintro e w5 ⟨j, hj, rfl, hR5, hg5, hz5⟩
      have HF5 := Lib.hid (HF.out.pick hgw hR5 hg5)
      clear hR5 hg5 hz5
      go_wp2_with fail
      refine (pick_any 99 HF5.out.rd (by omega) (by omega) (by omega)).mono ?_
      rintro e w6 ⟨u, hu, rfl, hR6, hg6, hz6⟩
      have HF6 := Lib.hid (HF5.out.pick hgw hR6 hg6)
      clear hR6 hg6 hz6
      have hjz : j < zs.length := by rw [HN.out]; omega
      obtain ⟨hcx, hfx⟩ := own_cell HF6.out.own2 j hjz
      have hji : (j : Int) < (n : Int) := by omega
      have HF7 := Lib.hid (HF6.out.put hgw hgB j (10 * (u : Int)))
      clear hjz
      go_wp2_with fail
      go_meet
      exact ⟨zs.set j (10 * (u : Int)), _, by omega, (by show _ = _; rw [List.length_set]; exact HN.out), HF7⟩
  case rest =>
  obtain ⟨ys, q5, hq5, HN5, HF5⟩ := hcut
  clear HF
  go_wp2_with fail
  refine (pick_any 6 HF5.out.rd (by omega) (by omega) (by omega)).mono ?_
  rintro e w6 ⟨t6, ht6, rfl, hR6, hg6, hz6⟩
  have HF6 := Lib.hid (HF5.out.pick hgw hR6 hg6)
  clear hR6 hg6 hz6
  go_upto_if 33 with fail
  go_cut [5] (fun s5 wx => ∃ (Y' e' K' : Nat) (us : List Int) (q' : Nat), s5 = .slice (some ⟨Y', 0, none⟩) us.length e' ∧ us.length ≤ 28 ∧ q' ≤ q2 + 70 ∧ Hid (Fk w B g A len cap q' bX c zs K' (some ⟨Y', 0, none⟩) e' us wx))
  case first =>
    by_cases ht0 : t6 = 0
    · subst ht0
      go_wp2_with fail
      refine (leavesdraw_any HF6.out.rd (by omega)).mono ?_
      rintro e w7 ⟨X7, c7, us, q7, rfl, hl7, hq7, hD7⟩
      obtain ⟨b7, hX7⟩ := hD7.some_
      subst hX7
      have HF7 : Hid (Fk w B g A len cap q7 bX c zs w6.heap.size (some ⟨b7, 0, none⟩) c7 us w7) :=
        ⟨hD7.rd, World.grownBy.trans HF6.out.grown hD7.grown, HF6.out.blk.grown hD7.grown (fun e => by injection e with e; omega), HF6.out.own1.keep hD7.grown (fun k hk => by injection hk with hk; omega), hD7.own, (own_lt HF6.out.own1 bX rfl).2, by have := HF6.out.far; have := HF6.out.top; omega, hD7.size⟩
      clear hD7
      go_wp2_with fail
      go_meet
      exact ⟨b7, c7, _, us, q7, rfl, hl7, by omega, HF7⟩
    · have ht0' : ((t6 : Int) == 0) = false := by rw [beq_eq_false_iff_ne]; omega
      go_wp2_with fail
      go_meet
      exact ⟨Y, e3, _, ys, _, by rw [HN5.out], by rw [HN5.out]; omega, by omega, HF6⟩
  case rest =>
  obtain ⟨Y7, e7, K7, us, q7, rfl, hl7, hq7, HF7⟩ := hcut
  clear HF5 HF6
  obtain ⟨m, HM⟩ : ∃ m, Hid (us.length = m) := ⟨_, rfl⟩
  rw [HM.out] at hl7 ⊢
  go_wp2_with fail
  refine (spublic_any sec _).mono ?_
  rintro e w' ⟨rfl, rfl⟩
  obtain ⟨pb, HPB⟩ : ∃ pb, Hid (publicOr sec = pb) := ⟨_, rfl⟩
  rw [HPB.out]
  obtain ⟨W, HW⟩ : ∃ W, Hid (wc.alloc (.cells (forkC pb 0 0 0 0 0 0) 32) = W) := ⟨_, rfl⟩
  have HFW : Hid (Fk w B g A len cap q7 bX c zs K7 (some ⟨Y7, 0, none⟩) e7 us W) := by rw [← HW.out]; exact HF7.out.below hgw ((Below.refl _ _).alloc (Nat.le_refl _) _)
  have HKW : Hid (Blk W wc.heap.size 32 (forkC pb 0 0 0 0 0 0)) := by rw [← HW.out]; exact Blk.new _ _ _
  have hgc : w.heap.size + 1 ≤ wc.heap.size := by have := HF7.out.far; have := HF7.out.top; omega
  have C1 : Hid (Calls Try.prog 35 #[.int .i64 sec, .slice (some ⟨bX, 0, none⟩) n c] W fun e w' => e = .returned (.tuple #[headV (madeL sec zs) (madeD sec zs) (madeS sec zs), .bool (madeOk sec zs)]) ∧ Below W.heap.size W w') := by
    have h := smake_any sec zs bX 0 c W HFW.out.own1.ints HFW.out.own1.le.1 HFW.out.own1.le.2
    rw [HN.out] at h
    exact h
  obtain ⟨l1, Hl1⟩ : ∃ x, Hid (madeL sec zs = x) := ⟨_, rfl⟩
  obtain ⟨d1, Hd1⟩ : ∃ x, Hid (madeD sec zs = x) := ⟨_, rfl⟩
  obtain ⟨s1, Hs1⟩ : ∃ x, Hid (madeS sec zs = x) := ⟨_, rfl⟩
  obtain ⟨r1, Hr1⟩ : ∃ x, Hid (madeOk sec zs = x) := ⟨_, rfl⟩
  rw [Hl1.out, Hd1.out, Hs1.out, Hr1.out] at C1
  go_wp2_with fail
  rw [HW.out]
  refine C1.out.mono ?_
  rintro e w8 ⟨rfl, hb8⟩
  have HF8 := Lib.hid (HFW.out.below hgw hb8)
  have HK8 := Lib.hid (HKW.out.below hb8 HKW.out.lt)
  clear hb8
  obtain ⟨k0, k1, k2, k3, k4, k5, k6⟩ := fork_cells HK8.out
  have kf := blk_frozen HK8.out
  obtain ⟨U, HU⟩ : ∃ U, Hid (((w8.setCell ⟨wc.heap.size, 1, none⟩ (.int .i64 l1)).setCell ⟨wc.heap.size, 2, none⟩ (.int .i64 d1)).setCell ⟨wc.heap.size, 3, none⟩ (.int .i64 s1) = U) := ⟨_, rfl⟩
  have HBU : Hid (Below wc.heap.size w8 U) := by rw [← HU.out]; exact (((Below.refl _ w8).setCell (p := ⟨wc.heap.size, 1, none⟩) (Nat.le_refl _) _).setCell (p := ⟨wc.heap.size, 2, none⟩) (Nat.le_refl _) _).setCell (p := ⟨wc.heap.size, 3, none⟩) (Nat.le_refl _) _
  have HKU : Hid (Blk U wc.heap.size 32 (forkC pb l1 d1 s1 0 0 0)) := by rw [← HU.out]; exact ((HK8.out.setOwn 1 _).setOwn 2 _).setOwn 3 _
  have HRU : Hid (Rd U B g A len cap q7) := HF8.out.rd.then_ HBU.out (by omega)
  have HGU : Hid (w.grownBy U (some g)) := grown_then HF8.out.grown (HBU.out.mono (by omega))
  have HZU : Hid (Blk U w.heap.size 32 (forkC 0 0 0 0 0 0 0)) := HF8.out.blk.below HBU.out (by omega)
  have HOU : Hid (OwnInts U K7 (some ⟨Y7, 0, none⟩) e7 us) := own_block HF8.out.own2 fun y hy => HBU.out.block y (by have := (own_lt HF7.out.own2 y hy).2; omega)
  have C2 : Hid (Calls Try.prog 35 #[.int .i64 sec, .slice (some ⟨Y7, 0, none⟩) m e7] U fun e w' => e = .returned (.tuple #[headV (madeL sec us) (madeD sec us) (madeS sec us), .bool (madeOk sec us)]) ∧ Below U.heap.size U w') := by
    have h := smake_any sec us Y7 0 e7 U HOU.out.ints HOU.out.le.1 HOU.out.le.2
    rw [HM.out] at h
    exact h
  obtain ⟨l2, Hl2⟩ : ∃ x, Hid (madeL sec us = x) := ⟨_, rfl⟩
  obtain ⟨d2, Hd2⟩ : ∃ x, Hid (madeD sec us = x) := ⟨_, rfl⟩
  obtain ⟨s2, Hs2⟩ : ∃ x, Hid (madeS sec us = x) := ⟨_, rfl⟩
  obtain ⟨r2, Hr2⟩ : ∃ x, Hid (madeOk sec us = x) := ⟨_, rfl⟩
  rw [Hl2.out, Hd2.out, Hs2.out, Hr2.out] at C2
  go_wp2_with fail
  rw [HU.out]
  refine C2.out.mono ?_
  rintro e w9 ⟨rfl, hb9⟩
  have HK9 := Lib.hid (HKU.out.below hb9 HKU.out.lt)
  have HZ9 := Lib.hid (HZU.out.below hb9 HZU.out.lt)
  have HR9 : Hid (Rd w9 B g A len cap q7) := HRU.out.then_ hb9 HRU.out.lt
  have HG9 : Hid (w.grownBy w9 (some g)) := grown_then HGU.out (hb9.mono HGU.out.size)
  clear hb9 k0 k1 k2 k3 k4 k5 k6 kf
  obtain ⟨k0, k1, k2, k3, k4, k5, k6⟩ := fork_cells HK9.out
  have kf := blk_frozen HK9.out
  obtain ⟨T, HT⟩ : ∃ T, Hid (((w9.setCell ⟨wc.heap.size, 4, none⟩ (.int .i64 l2)).setCell ⟨wc.heap.size, 5, none⟩ (.int .i64 d2)).setCell ⟨wc.heap.size, 6, none⟩ (.int .i64 s2) = T) := ⟨_, rfl⟩
  have HBT : Hid (Below wc.heap.size w9 T) := by rw [← HT.out]; exact (((Below.refl _ w9).setCell (p := ⟨wc.heap.size, 4, none⟩) (Nat.le_refl _) _).setCell (p := ⟨wc.heap.size, 5, none⟩) (Nat.le_refl _) _).setCell (p := ⟨wc.heap.size, 6, none⟩) (Nat.le_refl _) _
  have HKT : Hid (Blk T wc.heap.size 32 (forkC pb l1 d1 s1 l2 d2 s2)) := by rw [← HT.out]; exact ((HK9.out.setOwn 4 _).setOwn 5 _).setOwn 6 _
  have HRT : Hid (Rd T B g A len cap q7) := HR9.out.then_ HBT.out (by omega)
  have HGT : Hid (w.grownBy T (some g)) := grown_then HG9.out (HBT.out.mono (by omega))
  have HZT : Hid (Blk T w.heap.size 32 (forkC 0 0 0 0 0 0 0)) := HZ9.out.below HBT.out (by omega)
  go_wp2_with fail
  rw [HT.out]
  refine (pick_any 12 HRT.out (by omega) (by omega) (by omega)).mono ?_
  rintro e w10 ⟨x, hx, rfl, hR10, hg10, hz10⟩
  have HR10 := Lib.hid hR10
  have HK10 := Lib.hid (HKT.out.grown hg10 (fun e => by injection e with e; omega))
  have HZ10 := Lib.hid (HZT.out.grown hg10 (fun e => by injection e with e; omega))
  have HG10 : Hid (w.grownBy w10 (some g)) := World.grownBy.trans HGT.out hg10
  clear hR10 hg10 hz10 k0 k1 k2 k3 k4 k5 k6 kf
  by_cases hx0 : x = 0
  · subst hx0
    go_wp2_with fail
    refine (drawsec_any HR10.out (by omega)).mono ?_
    rintro e w11 ⟨y, q11, hy1, hy2, hq11, rfl, hR11, hb11, hg11⟩
    have HK11 := Lib.hid (HK10.out.grown hg11 (fun e => by injection e with e; omega))
    have HZ11 := Lib.hid (HZ10.out.grown hg11 (fun e => by injection e with e; omega))
    obtain ⟨V, HV⟩ : ∃ V, Hid (w11.setCell ⟨wc.heap.size, 0, none⟩ (.int .i64 y) = V) := ⟨_, rfl⟩
    have HBV : Hid (Below wc.heap.size w11 V) := by rw [← HV.out]; exact (Below.refl _ w11).setCell (p := ⟨wc.heap.size, 0, none⟩) (Nat.le_refl _) _
    have HKV : Hid (Blk V wc.heap.size 32 (forkC y l1 d1 s1 l2 d2 s2)) := by rw [← HV.out]; exact HK11.out.setOwn 0 _
    have HZV : Hid (Blk V w.heap.size 32 (forkC 0 0 0 0 0 0 0)) := HZ11.out.below HBV.out (by omega)
    have HRV : Hid (Rd V B g A len cap q11) := hR11.then_ HBV.out (by omega)
    have HGV : Hid (w.grownBy V (some g)) := grown_then (World.grownBy.trans HG10.out hg11) (HBV.out.mono (by omega))
    clear hR11 hb11 hg11
    obtain ⟨j0, j1, j2, j3, j4, j5, j6⟩ := fork_cells HK11.out
    have jf := blk_frozen HK11.out
    go_upto_region 16 with fail
    rw [HV.out]
    clear j0 j1 j2 j3 j4 j5 j6 jf
    obtain ⟨z0, z1, z2, z3, z4, z5, z6⟩ := fork_cells HZV.out
    obtain ⟨k0, k1, k2, k3, k4, k5, k6⟩ := fork_cells HKV.out
    have zf := blk_frozen HZV.out
    go_wp2
    obtain ⟨Y9, HY9⟩ : ∃ Y9, Hid ((((((((V.setCell ⟨w.heap.size, 0, none⟩ (.int .i64 y)).setCell ⟨w.heap.size, 1, none⟩ (.int .i64 l1)).setCell ⟨w.heap.size, 2, none⟩ (.int .i64 d1)).setCell ⟨w.heap.size, 3, none⟩ (.int .i64 s1)).setCell ⟨w.heap.size, 4, none⟩ (.int .i64 l2)).setCell ⟨w.heap.size, 5, none⟩ (.int .i64 d2)).setCell ⟨w.heap.size, 6, none⟩ (.int .i64 s2)) = Y9) := ⟨_, rfl⟩
    have HBY : Hid (Below w.heap.size V Y9) := by rw [← HY9.out]; exact below_seven (Below.refl _ _) (Nat.le_refl _) _ _ _ _ _ _ _
    have KRY : Hid (Blk Y9 w.heap.size 32 (forkC y l1 d1 s1 l2 d2 s2)) := by rw [← HY9.out]; exact blk_seven HZV.out _ _ _ _ _ _ _
    rw [HY9.out]
    obtain ⟨y0, y1, y2, y3, y4, y5, y6⟩ := fork_cells KRY.out
    exact bodyPost_ret (v := forkV y l1 d1 s1 l2 d2 s2) (by simp [results, Try.results24, go_sem, y0, y1, y2, y3, y4, y5, y6]) rfl ⟨_, _, _, _, _, _, _, _, rfl, by omega, HRV.out.then_ HBY.out hgw, grown_then HGV.out HBY.out⟩
  · have hx0' : ((x : Int) == 0) = false := by rw [beq_eq_false_iff_ne]; omega
    by_cases hx1 : x = 1
    · subst hx1
      go_wp2_with fail
      refine (drawsec_any HR10.out (by omega)).mono ?_
      rintro e w11 ⟨y, q11, hy1, hy2, hq11, rfl, hR11, hb11, hg11⟩
      have HK11 := Lib.hid (HK10.out.grown hg11 (fun e => by injection e with e; omega))
      have HZ11 := Lib.hid (HZ10.out.grown hg11 (fun e => by injection e with e; omega))
      obtain ⟨V, HV⟩ : ∃ V, Hid (w11.setCell ⟨wc.heap.size, 6, none⟩ (.int .i64 y) = V) := ⟨_, rfl⟩
      have HBV : Hid (Below wc.heap.size w11 V) := by rw [← HV.out]; exact (Below.refl _ w11).setCell (p := ⟨wc.heap.size, 6, none⟩) (Nat.le_refl _) _
      have HKV : Hid (Blk V wc.heap.size 32 (forkC pb l1 d1 s1 l2 d2 y)) := by rw [← HV.out]; exact HK11.out.setOwn 6 _
      have HZV : Hid (Blk V w.heap.size 32 (forkC 0 0 0 0 0 0 0)) := HZ11.out.below HBV.out (by omega)
      have HRV : Hid (Rd V B g A len cap q11) := hR11.then_ HBV.out (by omega)
      have HGV : Hid (w.grownBy V (some g)) := grown_then (World.grownBy.trans HG10.out hg11) (HBV.out.mono (by omega))
      clear hR11 hb11 hg11
      obtain ⟨j0, j1, j2, j3, j4, j5, j6⟩ := fork_cells HK11.out
      have jf := blk_frozen HK11.out
      go_upto_region 16 with fail
      rw [HV.out]
      clear j0 j1 j2 j3 j4 j5 j6 jf
      obtain ⟨z0, z1, z2, z3, z4, z5, z6⟩ := fork_cells HZV.out
      obtain ⟨k0, k1, k2, k3, k4, k5, k6⟩ := fork_cells HKV.out
      have zf := blk_frozen HZV.out
      go_wp2
      obtain ⟨Y9, HY9⟩ : ∃ Y9, Hid ((((((((V.setCell ⟨w.heap.size, 0, none⟩ (.int .i64 pb)).setCell ⟨w.heap.size, 1, none⟩ (.int .i64 l1)).setCell ⟨w.heap.size, 2, none⟩ (.int .i64 d1)).setCell ⟨w.heap.size, 3, none⟩ (.int .i64 s1)).setCell ⟨w.heap.size, 4, none⟩ (.int .i64 l2)).setCell ⟨w.heap.size, 5, none⟩ (.int .i64 d2)).setCell ⟨w.heap.size, 6, none⟩ (.int .i64 y)) = Y9) := ⟨_, rfl⟩
      have HBY : Hid (Below w.heap.size V Y9) := by rw [← HY9.out]; exact below_seven (Below.refl _ _) (Nat.le_refl _) _ _ _ _ _ _ _
      have KRY : Hid (Blk Y9 w.heap.size 32 (forkC pb l1 d1 s1 l2 d2 y)) := by rw [← HY9.out]; exact blk_seven HZV.out _ _ _ _ _ _ _
      rw [HY9.out]
      obtain ⟨y0, y1, y2, y3, y4, y5, y6⟩ := fork_cells KRY.out
      exact bodyPost_ret (v := forkV pb l1 d1 s1 l2 d2 y) (by simp [results, Try.results24, go_sem, y0, y1, y2, y3, y4, y5, y6]) rfl ⟨_, _, _, _, _, _, _, _, rfl, by omega, HRV.out.then_ HBY.out hgw, grown_then HGV.out HBY.out⟩
    · have hx1' : ((x : Int) == 1) = false := by rw [beq_eq_false_iff_ne]; omega
      obtain ⟨V, HV⟩ : ∃ V, V = w10 := ⟨_, rfl⟩
      subst HV
      have HKV := HK10
      have HZV := HZ10
      have HRV := HR10
      have HGV := HG10
      obtain ⟨z0, z1, z2, z3, z4, z5, z6⟩ := fork_cells HZV.out
      obtain ⟨k0, k1, k2, k3, k4, k5, k6⟩ := fork_cells HKV.out
      have zf := blk_frozen HZV.out
      go_wp2
      obtain ⟨Y9, HY9⟩ : ∃ Y9, Hid ((((((((V.setCell ⟨w.heap.size, 0, none⟩ (.int .i64 pb)).setCell ⟨w.heap.size, 1, none⟩ (.int .i64 l1)).setCell ⟨w.heap.size, 2, none⟩ (.int .i64 d1)).setCell ⟨w.heap.size, 3, none⟩ (.int .i64 s1)).setCell ⟨w.heap.size, 4, none⟩ (.int .i64 l2)).setCell ⟨w.heap.size, 5, none⟩ (.int .i64 d2)).setCell ⟨w.heap.size, 6, none⟩ (.int .i64 s2)) = Y9) := ⟨_, rfl⟩
      have HBY : Hid (Below w.heap.size V Y9) := by rw [← HY9.out]; exact below_seven (Below.refl _ _) (Nat.le_refl _) _ _ _ _ _ _ _
      have KRY : Hid (Blk Y9 w.heap.size 32 (forkC pb l1 d1 s1 l2 d2 s2)) := by rw [← HY9.out]; exact blk_seven HZV.out _ _ _ _ _ _ _
      rw [HY9.out]
      obtain ⟨y0, y1, y2, y3, y4, y5, y6⟩ := fork_cells KRY.out
      exact bodyPost_ret (v := forkV pb l1 d1 s1 l2 d2 s2) (by simp [results, Try.results24, go_sem, y0, y1, y2, y3, y4, y5, y6]) rfl ⟨_, _, _, _, _, _, _, _, rfl, by omega, HRV.out.then_ HBY.out hgw, grown_then HGV.out HBY.out⟩

/-- What DrawForkCheck hands back. -/
def ForkDrawn (w : World) (e : Ending) (w' : World) : Prop :=
  ∃ k a b c x y z, e = .returned (forkV k a b c x y z) ∧ Below w.heap.size w w'

set_option maxHeartbeats 2000000 in
set_option maxRecDepth 100000 in
theorem drawForkCheck_any (A : Option Addr) (len cap : Nat) (w : World) (hI : In w A len cap) :
    Calls Try.prog 13 #[.slice A len cap] w (ForkDrawn w) := by
  have HI := Lib.hid hI
  have hIa : In (w.alloc (.cells (forkC 0 0 0 0 0 0 0) 32)) A len cap := ⟨fun k hk => by
    obtain ⟨b, o', z, hA, hb, hc, h0, h1⟩ := hI.bytes k hk
    exact ⟨b, o', z, hA, by simp; omega, (World.cell?_of_block (a := ⟨b, o' + k, none⟩) (Below.heap_alloc w _ b hb)).trans hc, h0, h1⟩, hI.le, hI.most⟩
  have HIA := Lib.hid hIa
  clear hI hIa
  go_enter Try.func13, Try.ntmps13
  go_wp2_with fail
  refine (open_any A len cap _ HIA.out).mono ?_
  rintro e w1 ⟨len', cap', rfl, hR1, hb1⟩
  simp only [World.size_alloc] at hR1 hb1 ⊢
  have HR1 := Lib.hid hR1
  have KR1 : Hid (Blk w1 w.heap.size 32 (forkC 0 0 0 0 0 0 0)) := (Blk.new w 32 _).below hb1 (by omega)
  have HB1 : Hid (Below w.heap.size w w1) := ((Below.refl _ w).alloc (Nat.le_refl _) _).trans (hb1.mono (by omega))
  have hg1 : w.heap.size + 1 < w1.heap.size := hR1.lt
  clear hR1 hb1
  go_wp2_with fail
  refine (drawfork_any HR1.out (by omega)).mono ?_
  rintro e w2 ⟨k, a, b, c, x, y, z, q2, rfl, hq2, hR2, hg2⟩
  have KR2 := Lib.hid (KR1.out.grown hg2 (fun e => by injection e with e; omega))
  have HB2 : Hid (Below w.heap.size w w2) := HB1.out.grown hg2 (by omega) (fun k hk => by injection hk with hk; omega)
  clear hR2 hg2
  obtain ⟨z0, z1, z2, z3, z4, z5, z6⟩ := fork_cells KR2.out
  have zf := blk_frozen KR2.out
  go_wp2
  obtain ⟨Y9, HY9⟩ : ∃ Y9, Hid ((((((((w2.setCell ⟨w.heap.size, 0, none⟩ (.int .i64 k)).setCell ⟨w.heap.size, 1, none⟩ (.int .i64 a)).setCell ⟨w.heap.size, 2, none⟩ (.int .i64 b)).setCell ⟨w.heap.size, 3, none⟩ (.int .i64 c)).setCell ⟨w.heap.size, 4, none⟩ (.int .i64 x)).setCell ⟨w.heap.size, 5, none⟩ (.int .i64 y)).setCell ⟨w.heap.size, 6, none⟩ (.int .i64 z)) = Y9) := ⟨_, rfl⟩
  have HBY : Hid (Below w.heap.size w Y9) := by rw [← HY9.out]; exact below_seven HB2.out (Nat.le_refl _) _ _ _ _ _ _ _
  have KRY : Hid (Blk Y9 w.heap.size 32 (forkC k a b c x y z)) := by rw [← HY9.out]; exact blk_seven KR2.out _ _ _ _ _ _ _
  rw [HY9.out]
  obtain ⟨y0, y1, y2, y3, y4, y5, y6⟩ := fork_cells KRY.out
  exact bodyPost_ret (v := forkV k a b c x y z) (by simp [results, Try.results13, go_sem, y0, y1, y2, y3, y4, y5, y6]) rfl ⟨_, _, _, _, _, _, _, rfl, HBY.out⟩

end Go.Proofs.Ytkicfneikbiklaa
