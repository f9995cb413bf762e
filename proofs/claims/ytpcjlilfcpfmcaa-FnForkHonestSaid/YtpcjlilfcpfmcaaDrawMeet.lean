/- Contract of DrawForkMeet: two small feeds in memory of the call's own; a head of length 0 has no signature; nothing that was there is changed. Condition: the code's bytes lie in memory. -/
import Derived.Test.YtpcjlilfcpfmcaaDrawFeed
import Derived.Test.YtpcjlilfcpfmcaaFork
import Derived.Deep.DeepCutAuto
namespace Go.Proofs.Ytpcjlilfcpfmcaa
open Go.RowKit
set_option linter.unusedVariables false

set_option maxRecDepth 100000 in
theorem run_app_nothingS (W : World) (ty b c bc : Nat) (B : Option Addr) : (Builtin.append_ #[31, 31] ty #[.slice (some ⟨b, 0, none⟩) 0 c, .slice B 0 bc]).run Try.prog W = .ok (.slice (some ⟨b, 0, none⟩) 0 c) W := by
  obtain ⟨i0, hi0, hz0, hz1, hz2⟩ := info_parts string_info
  cases B with
  | none => simp [Builtin.append_, run_underlying Try.underlying31, sizeOf, typeInfo, hi0, Builtin.lenOf, Builtin.firstCells, storeCells]
  | some ad => simp [Builtin.append_, run_underlying Try.underlying31, sizeOf, typeInfo, hi0, Builtin.lenOf, Builtin.firstCells, storeCells, loadCells, loadCellsFrom]
theorem wpList_app_nothingS {ops : Array Oper} {rest : List Oper} {o : Oper} {a : Act} {Q : Exit → Act → World → Prop} (hgd : o.guard = none) (s x : Operand) (ho : o.op = .call { callee := .builtin .append, args := #[s, x], argTypes := #[31, 31] })
    (W : World) (b c : Nat) (hs : a.eval s = .slice (some ⟨b, 0, none⟩) 0 c) (B : Option Addr) (bc : Nat) (hx : a.eval x = .slice B 0 bc)
    (h : wpList Try.prog ops Q rest (a.put o.dst (.slice (some ⟨b, 0, none⟩) 0 c)) W) : wpList Try.prog ops Q (o :: rest) a W :=
  wpList_plain hgd fun K hK => by
    have hrun := run_app_nothingS W o.type b c bc B
    unfold Oper.wp execOp
    simp only [ho, resolve, invoke, builtin, Sem.run_bind, Sem.run_pure, Result.andThen_ok, List.map_toArray, List.map_cons, List.map_nil, hs, hx, hrun]
    exact hK _ _ h

theorem owns_at {w : World} {base : Nat} {A : Option Addr} {c : Nat} {bs : List ByteArray} (h : OwnStrs w base A c bs) (hn : 0 < bs.length) : ∃ y, A = some ⟨y, 0, none⟩ := by
  rcases owns_form h with hn' | h'
  · obtain ⟨b, o, e, _⟩ := h.ints hn
    rw [hn'] at e; cases e
  · exact h'
theorem OwnFeed.kept {w w' : World} {base : Nat} {A1 A2 : Option Addr} {c1 c2 : Nat} {bs : List ByteArray} {hs : List Bool} (h : OwnFeed w base A1 c1 A2 c2 bs hs) {g : Nat} (hg : w.grownBy w' (some g)) (hgb : g < base) : OwnFeed w' base A1 c1 A2 c2 bs hs :=
  ⟨owns_keep h.strs hg (fun k hk => by injection hk with hk; omega), ownbs_keep h.bits hg (fun k hk => by injection hk with hk; omega), h.fit⟩

/-- Where the draw stands: the results' blocks, the reader, the blocks of the first writer, those of the second. -/
structure Fm (w : World) (A : Option Addr) (len cap q : Nat) (X : Option Addr) (c : Nat) (b0 : List ByteArray) (Y e : Nat) (ys : List ByteArray) (wx : World) : Prop where
  rd : Rd wx (w.heap.size + 1 + 1) (w.heap.size + 1 + 1) A len cap q
  below : Below w.heap.size w wx
  ka : Blk wx w.heap.size 34 (feedC 0 0 0 0 none 0 0 none 0 0)
  kb : Blk wx (w.heap.size + 1) 34 (feedC 0 0 0 0 none 0 0 none 0 0)
  own1 : OwnStrs wx (w.heap.size + 1 + 1 + 1) X c b0
  own2 : OwnStrs wx (w.heap.size + 1 + 1 + 1) (some ⟨Y, 0, none⟩) e ys
  apart : ∀ g, X = some ⟨g, 0, none⟩ → g ≠ Y
  short : ∀ x ∈ ys, x.size ≤ 8
section
variable {w w1 w2 : World} {len cap q q' c Y e : Nat} {A X : Option Addr} {b0 ys : List ByteArray}
theorem Fm.pick (h : Fm w A len cap q X c b0 Y e ys w1) (hR : Rd w2 (w.heap.size + 1 + 1) (w.heap.size + 1 + 1) A len cap q') (hg : w1.grownBy w2 (some (w.heap.size + 1 + 1))) : Fm w A len cap q' X c b0 Y e ys w2 :=
  ⟨hR, h.below.grown hg (by have := h.rd.lt; omega) (fun k hk => by injection hk with hk; omega), h.ka.grown hg (fun e => by injection e with e; omega), h.kb.grown hg (fun e => by injection e with e; omega), owns_keep h.own1 hg (fun k hk => by injection hk with hk; omega), owns_keep h.own2 hg (fun k hk => by injection hk with hk; omega), h.apart, h.short⟩
theorem Fm.alloc (h : Fm w A len cap q X c b0 Y e ys w1) (o : Obj) : Fm w A len cap q X c b0 Y e ys (w1.alloc o) :=
  ⟨h.rd.alloc o, h.below.alloc h.below.size o, h.ka.alloc o, h.kb.alloc o, h.own1.alloc o, h.own2.alloc o, h.apart, h.short⟩
theorem Fm.put (h : Fm w A len cap q X c b0 Y e ys w1) (j : Nat) (x : ByteArray) (hx : x.size ≤ 8) : Fm w A len cap q X c b0 Y e (ys.set j x) (w1.setCell ⟨Y, j, none⟩ (.string x)) := by
  have hk := owns_lt h.own2 Y rfl
  refine ⟨h.rd.setOther (q := ⟨Y, j, none⟩) (by show w.heap.size + 1 + 1 ≤ Y; omega) (by show Y ≠ w.heap.size + 1 + 1; omega) _, h.below.setCell (p := ⟨Y, j, none⟩) (by show w.heap.size ≤ Y; omega) _, h.ka.setOther (p := ⟨Y, j, none⟩) (by show Y ≠ w.heap.size; omega) _, h.kb.setOther (p := ⟨Y, j, none⟩) (by show Y ≠ w.heap.size + 1; omega) _, owns_block h.own1 fun g hg => Below.heap_setCell w1 ⟨Y, j, none⟩ _ g (h.apart g hg), (owns_stored h.own2 j x).1, h.apart, fun y hy => ?_⟩
  rcases List.mem_or_eq_of_mem_set hy with hy | hy
  · exact h.short y hy
  · subst hy; exact hx
end

def MeetDrawn (w : World) (e : Ending) (w' : World) : Prop :=
  ∃ p l d s A1 c1 A2 c2 bs hs q m i t A3 c3 A4 c4 cs ks, e = .returned (.tuple #[feedV p l d s A1 (List.length bs) c1 A2 (List.length hs) c2, feedV q m i t A3 (List.length cs) c3 A4 (List.length ks) c4]) ∧ OwnFeed w' w.heap.size A1 c1 A2 c2 bs hs ∧ OwnFeed w' w.heap.size A3 c3 A4 c4 cs ks ∧ bs.length ≤ 16 ∧ hs.length ≤ 17 ∧ cs.length ≤ 16 ∧ ks.length ≤ 17 ∧ (l = 0 → s = 0) ∧ (m = 0 → t = 0) ∧ Below w.heap.size w w'

set_option maxHeartbeats 8000000 in
set_option maxRecDepth 100000 in
theorem drawForkMeet_any (A : Option Addr) (len cap : Nat) (w : World) (hI : In w A len cap) :
    Calls Try.prog 13 #[.slice A len cap] w (MeetDrawn w) := by
  have HI := Lib.hid (in_alloc (in_alloc hI (.cells (feedC 0 0 0 0 none 0 0 none 0 0) 34)) (.cells (feedC 0 0 0 0 none 0 0 none 0 0) 34))
  clear hI
  go_enter Try.func13, Try.ntmps13
  go_wp2_with fail
  refine (open_any A len cap _ HI.out).mono ?_
  rintro e w1 ⟨len', cap', rfl, hR1, hb1⟩
  simp only [World.size_alloc] at hR1 hb1 ⊢
  have HR1 := Lib.hid hR1
  have KA1 : Hid (Blk w1 w.heap.size 34 (feedC 0 0 0 0 none 0 0 none 0 0)) := ((Blk.new w 34 (feedC 0 0 0 0 none 0 0 none 0 0)).alloc _).below hb1 (by omega)
  have KB1 : Hid (Blk w1 (w.heap.size + 1) 34 (feedC 0 0 0 0 none 0 0 none 0 0)) := by
    have h := Blk.new (w.alloc (.cells (feedC 0 0 0 0 none 0 0 none 0 0) 34)) 34 (feedC 0 0 0 0 none 0 0 none 0 0)
    rw [World.size_alloc] at h
    exact h.below hb1 (by omega)
  have HB1 : Hid (Below w.heap.size w w1) := (((Below.refl _ w).alloc (Nat.le_refl _) _).alloc (by simp) _).trans (hb1.mono (by omega))
  have hg1 : w.heap.size + 1 + 1 < w1.heap.size := hR1.lt
  clear hR1 hb1
  go_wp2_with fail
  refine (drawgood_any HR1.out (by omega)).mono ?_
  rintro e w2 ⟨sec, q2, hs0, hs1, hq2, rfl, hR2, hg2⟩
  have HR2 := Lib.hid hR2
  have KA2 := Lib.hid (KA1.out.grown hg2 (fun e => by injection e with e; omega))
  have KB2 := Lib.hid (KB1.out.grown hg2 (fun e => by injection e with e; omega))
  have HB2 : Hid (Below w.heap.size w w2) := HB1.out.grown hg2 (by omega) (fun k hk => by injection hk with hk; omega)
  have hz2 : w1.heap.size ≤ w2.heap.size := hg2.size
  clear hR2 hg2
  go_wp2_with fail
  refine (drawblocks_any HR2.out (by omega)).mono ?_
  rintro e w3 ⟨X, c, b0, q3, rfl, hl0, hq3, hS3⟩
  have HS3 := Lib.hid hS3
  have KA3 := Lib.hid (KA2.out.grown hS3.grown (fun e => by injection e with e; omega))
  have KB3 := Lib.hid (KB2.out.grown hS3.grown (fun e => by injection e with e; omega))
  have HB3 : Hid (Below w.heap.size w w3) := HB2.out.grown hS3.grown (by omega) (fun k hk => by injection hk with hk; omega)
  have hz3 : w2.heap.size ≤ w3.heap.size := hS3.grown.size
  obtain ⟨bX, hX⟩ := hS3.some_
  subst hX
  clear hS3
  obtain ⟨n, HN⟩ : ∃ n, Hid (b0.length = n) := ⟨_, rfl⟩
  have HF3 : Hid (∀ w4, Below w3.heap.size w3 w4 → ∀ Y e3, OwnStrs w4 w3.heap.size (some ⟨Y, 0, none⟩) e3 b0 → Fm w A len' cap' q3 (some ⟨bX, 0, none⟩) c b0 Y e3 b0 w4) := fun w4 hb Y e3 ho =>
    ⟨HS3.out.rd.then_ hb HS3.out.rd.lt, HB3.out.trans (hb.mono HB3.out.size), KA3.out.below hb (by omega), KB3.out.below hb (by omega), (HS3.out.own.below hb).base_le (by omega), ho.base_le (by omega), fun g hg => by
      have h1 := (owns_lt HS3.out.own g hg).2
      have h2 := (owns_lt ho Y rfl).1
      omega, HS3.out.short⟩
  have HSH := Lib.hid HS3.out.short
  rw [HN.out] at hl0 ⊢
  go_upto_region 4 with fail
  go_cut [7] (fun s7 wx => ∃ (Y e3 : Nat), s7 = .slice (some ⟨Y, 0, none⟩) n e3 ∧ Hid (Fm w A len' cap' q3 (some ⟨bX, 0, none⟩) c b0 Y e3 b0 wx))
  case first =>
    by_cases hn0 : n = 0
    · subst hn0
      have HNL : Hid (b0 = []) := List.eq_nil_of_length_eq_zero HN.out
      go_wp2_with (at_builtin; refine wpList_app_nothingS rfl (.tmp 15) (.tmp 16) rfl _ w3.heap.size 0 rfl _ c rfl ?_)
      go_meet
      exact ⟨w3.heap.size, 0, rfl, HF3.out _ ((Below.refl _ w3).alloc (Nat.le_refl _) _) _ _ (by rw [HNL.out]; exact OwnStrs.new w3)⟩
    · go_wp2_with (at_builtin; refine wpList_app_strs rfl (.tmp 15) (.tmp 16) rfl _ w3.heap.size _ _ [] rfl (some ⟨bX, 0, none⟩) c b0 (by rw [HN.out]; rfl) (OwnStrs.new w3) (HS3.out.own.ints.allocS _) (by rw [HN.out]; simp; omega) (by simp) (by intro e; cases e) ?_; intro v w4 hA; rw [List.nil_append] at hA; obtain ⟨⟨Y, e3, rfl, ho3⟩, hg3, hb3⟩ := hA; obtain ⟨y, hY⟩ := owns_at ho3 (by rw [HN.out]; omega); subst hY; have HF4 := Lib.hid (HF3.out w4 (((Below.refl _ w3).alloc (Nat.le_refl _) _).trans hb3) y e3 ho3); clear ho3 hg3 hb3; rw [HN.out])
      go_meet
      exact ⟨y, e3, rfl, HF4⟩
  case rest =>
  obtain ⟨Y, e3, rfl, HF4⟩ := hcut
  clear HF3 HS3 KA3 KB3 KA2 KB2 KA1 KB1 HR1 HR2 HB1 HB2 HB3
  go_upto_region 5 with fail
  go_cut [25] (fun s25 wx => ∃ (R : Bool) (q : Nat), s25 = .bool R ∧ q ≤ q3 + 1 ∧ (R = true → 0 < n) ∧ Hid (Fm w A len' cap' q (some ⟨bX, 0, none⟩) c b0 Y e3 b0 wx))
  case first =>
    by_cases hn0 : n = 0
    · subst hn0
      go_wp2_with fail
      go_meet
      exact ⟨false, q3, rfl, by omega, (fun e => by cases e), HF4⟩
    · have hnp : (0 : Int) < (n : Int) := by omega
      have hnd : decide (0 < n) = true := by simp; omega
      go_wp2_with fail
      refine (pick_any 4 HF4.out.rd (by omega) (by omega) (by omega)).mono ?_
      rintro e w5 ⟨t, ht, rfl, hR5, hg5, hz5⟩
      have HF5 := Lib.hid (HF4.out.pick hR5 hg5)
      clear hR5 hg5 hz5
      go_wp2_with fail
      go_meet
      exact ⟨decide (0 < t), _, by simp, by omega, (fun _ => by omega), HF5⟩
  case rest =>
  obtain ⟨R, q, rfl, hq, hR0, HF⟩ := hcut
  clear HF4
  go_upto_if 25 with fail
  go_cut [] (fun wx => ∃ (ys : List ByteArray) (q' : Nat), q' ≤ q3 + 3 ∧ Hid (ys.length = n) ∧ Hid (Fm w A len' cap' q' (some ⟨bX, 0, none⟩) c b0 Y e3 ys wx))
  case first =>
    cases R with
    | false =>
      go_wp2_with fail
      go_meet
      exact ⟨b0, q, by omega, HN, HF⟩
    | true =>
      have hn0 := hR0 rfl
      go_wp2_with fail
      refine (pick_any n HF.out.rd (by omega) (by omega) (by omega)).mono ?_
      rintro e w5 ⟨j, hj, rfl, hR5, hg5, hz5⟩
      have HF5 := Lib.hid (HF.out.pick hR5 hg5)
      clear hR5 hg5 hz5
      have hjz : j < b0.length := by rw [HN.out]; omega
      obtain ⟨hcx, hfx⟩ := owns_cell HF5.out.own2 j hjz
      have hji : (j : Int) < (n : Int) := by omega
      have HF7 := Lib.hid (HF5.out.put j ⟨#[102, 111, 114, 107]⟩ (by decide))
      clear hjz
      go_wp2_with fail
      go_meet
      exact ⟨b0.set j ⟨#[102, 111, 114, 107]⟩, _, by omega, (by show _ = _; rw [List.length_set]; exact HN.out), HF7⟩
  case rest =>
  obtain ⟨ys, q5, hq5, HN5, HF5⟩ := hcut
  clear HF
  go_wp2_with fail
  refine (pick_any 4 HF5.out.rd (by omega) (by omega) (by omega)).mono ?_
  rintro e w6 ⟨t6, ht6, rfl, hR6, hg6, hz6⟩
  have HF6 := Lib.hid (HF5.out.pick hR6 hg6)
  clear hR6 hg6 hz6
  go_upto_if 34 with fail
  go_cut [7] (fun s7 wx => ∃ (j q' : Nat), s7 = .slice (some ⟨Y, 0, none⟩) j e3 ∧ j ≤ n ∧ q' ≤ q3 + 5 ∧ Hid (Fm w A len' cap' q' (some ⟨bX, 0, none⟩) c b0 Y e3 ys wx))
  case first =>
    by_cases ht0 : t6 = 0
    · subst ht0
      go_wp2_with fail
      refine (pick_any ((n : Int) + 1) HF6.out.rd (by omega) (by omega) (by omega)).mono ?_
      rintro e w7 ⟨j, hj, rfl, hR7, hg7, hz7⟩
      have HF7 := Lib.hid (HF6.out.pick hR7 hg7)
      clear hR7 hg7 hz7
      have hcl := HF7.out.own2.le
      rw [HN5.out] at hcl
      have hc63 := hcl.2
      unfold maxLen at hc63
      have hji : (j : Int) ≤ (e3 : Int) := by omega
      have hji0 : (0 : Int) ≤ (j : Int) := by omega
      go_wp2_with fail
      go_meet
      exact ⟨j, _, by simp, by omega, by omega, HF7⟩
    · have ht0' : ((t6 : Int) == 0) = false := by rw [beq_eq_false_iff_ne]; omega
      go_wp2_with fail
      go_meet
      exact ⟨n, _, rfl, by omega, by omega, HF6⟩
  case rest =>
  obtain ⟨j, q7, rfl, hjn, hq7, HF7⟩ := hcut
  clear HF5 HF6
  have CR := Lib.hid (drawreader_any HF7.out.rd (by omega) sec (some ⟨bX, 0, none⟩) c b0 (by omega) (by omega) HF7.out.own1.ints HSH.out (by rw [HN.out]; exact hl0))
  rw [HN.out] at CR
  go_wp2_with fail
  refine CR.out.mono ?_
  rintro e w8 ⟨p, l, d, s, Z1, c1, Z2, c2, b1, h1, q8, rfl, ho8, hb1, hh1, hq8, hZ8, hR8, hg8⟩
  obtain ⟨V, HV⟩ : ∃ V, Hid (w8.alloc (.cells (feedC p l d s Z1 b1.length c1 Z2 h1.length c2) 34) = V) := ⟨_, rfl⟩
  have HFV : Hid (Fm w A len' cap' q8 (some ⟨bX, 0, none⟩) c b0 Y e3 ys V) := by rw [← HV.out]; exact (HF7.out.pick hR8 hg8).alloc _
  have KFV : Hid (Blk V w8.heap.size 34 (feedC p l d s Z1 b1.length c1 Z2 h1.length c2)) := by rw [← HV.out]; exact Blk.new w8 _ _
  have hzc : w.heap.size + 1 + 1 < wc.heap.size := HF7.out.rd.lt
  have HOV : Hid (OwnFeed V (w.heap.size + 1 + 1 + 1) Z1 c1 Z2 c2 b1 h1) := by rw [← HV.out]; exact (ho8.alloc _).base_le (by omega)
  have HZ8 := Lib.hid hZ8
  have hz8 : w.heap.size + 1 + 1 < w8.heap.size := by have := hg8.size; omega
  clear ho8 hR8 hg8 hZ8 CR
  go_wp2_with fail
  rw [HV.out]
  refine (pick_any 10 HFV.out.rd (by omega) (by omega) (by omega)).mono ?_
  rintro e w9 ⟨t9, ht9, rfl, hR9, hg9, hz9⟩
  have HF9 := Lib.hid (HFV.out.pick hR9 hg9)
  have KF9 := Lib.hid (KFV.out.grown hg9 (fun e => by injection e with e; omega))
  have HO9 : Hid (OwnFeed w9 (w.heap.size + 1 + 1 + 1) Z1 c1 Z2 c2 b1 h1) := HOV.out.kept hg9 (by omega)
  clear hR9 hg9 hz9
  go_upto_if 48 with fail
  go_cut [5] (fun s5 wx => ∃ (sec2 : Int) (q' : Nat), s5 = .int .i64 sec2 ∧ 1 ≤ sec2 ∧ sec2 ≤ 986 ∧ q' ≤ q8 + 3 ∧ Hid (Fm w A len' cap' q' (some ⟨bX, 0, none⟩) c b0 Y e3 ys wx) ∧ Hid (Blk wx w8.heap.size 34 (feedC p l d s Z1 b1.length c1 Z2 h1.length c2)) ∧ Hid (OwnFeed wx (w.heap.size + 1 + 1 + 1) Z1 c1 Z2 c2 b1 h1))
  case first =>
    by_cases ht0 : t9 = 0
    · subst ht0
      go_wp2_with fail
      refine (drawgood_any HF9.out.rd (by omega)).mono ?_
      rintro e w10 ⟨sec2, q10, hs20, hs21, hq10, rfl, hR10, hg10⟩
      have HF10 := Lib.hid (HF9.out.pick hR10 hg10)
      have KF10 := Lib.hid (KF9.out.grown hg10 (fun e => by injection e with e; omega))
      have HO10 : Hid (OwnFeed w10 (w.heap.size + 1 + 1 + 1) Z1 c1 Z2 c2 b1 h1) := HO9.out.kept hg10 (by omega)
      clear hR10 hg10
      go_wp2_with fail
      go_meet
      exact ⟨sec2, q10, rfl, hs20, hs21, by omega, HF10, KF10, HO10⟩
    · have ht0' : ((t9 : Int) == 0) = false := by rw [beq_eq_false_iff_ne]; omega
      go_wp2_with fail
      go_meet
      exact ⟨sec, _, rfl, hs0, hs1, by omega, HF9, KF9, HO9⟩
  case rest =>
  obtain ⟨sec2, q9, rfl, hs20, hs21, hq9, HFc, KFc, HOc⟩ := hcut
  clear HF9 KF9 HO9 HFV KFV HOV HF7
  obtain ⟨k0, k1, k2, k3, k4, k5⟩ := feed_cells KFc.out
  go_wp2_with fail
  refine (drawspoilt_any HFc.out.rd (by omega) p l d s Z1 c1 Z2 c2 b1 h1 HOc.out.at_ (own_nil_cap HOc.out).1 (own_nil_cap HOc.out).2 hb1 hh1).mono ?_
  rintro e w10 ⟨fp, fl, fd, fs, Y1, e1, Y2, e2, bs, hs, q10, rfl, ho10, hlb, hlh, hq10, ⟨hfl, hfs⟩, hR10, hg10⟩
  subst hfl hfs
  have HF10 := Lib.hid (HFc.out.pick hR10 hg10)
  have HO10 : Hid (OwnFeed w10 (w.heap.size + 1 + 1 + 1) Y1 e1 Y2 e2 bs hs) := ho10.base_le (by have := HFc.out.rd.lt; omega)
  clear ho10 hR10 hg10 k0 k1 k2 k3 k4 k5
  have HTL : Hid ((ys.take j).length = j) := by show _ = _; rw [List.length_take, HN5.out]; omega
  have CR := Lib.hid (drawreader_any HF10.out.rd (by omega) sec2 (some ⟨Y, 0, none⟩) e3 (ys.take j) (by omega) (by omega) (HF10.out.own2.ints.first j) (fun x hx => HF10.out.short x (List.mem_of_mem_take hx)) (by rw [HTL.out]; omega))
  rw [HTL.out] at CR
  go_wp2_with fail
  refine CR.out.mono ?_
  rintro e w11' ⟨p2, l2, d2, s2, T1, f1, T2, f2, b2, h2, q11, rfl, ho11, hb2, hh2, hq11, hZ11, hR11, hg11⟩
  have HF11 := Lib.hid (HF10.out.pick hR11 hg11)
  have HO11a : Hid (OwnFeed w11' (w.heap.size + 1 + 1 + 1) Y1 e1 Y2 e2 bs hs) := HO10.out.kept hg11 (by omega)
  have HO11 : Hid (OwnFeed w11' (w.heap.size + 1 + 1 + 1) T1 f1 T2 f2 b2 h2) := ho11.base_le (by have := HF10.out.rd.lt; omega)
  have HZ11 := Lib.hid hZ11
  clear ho11 hR11 hg11 hZ11 CR HF10 HO10
  go_wp2_with fail
  refine (drawspoilt_any HF11.out.rd (by omega) p2 l2 d2 s2 T1 f1 T2 f2 b2 h2 HO11.out.at_ (own_nil_cap HO11.out).1 (own_nil_cap HO11.out).2 hb2 hh2).mono ?_
  rintro e w11 ⟨gp, gl, gd, gs, V1, e3', V2, e4, cs, ks, q12, rfl, ho12, hlc, hlk, hq12, ⟨hgl, hgs⟩, hR12, hg12⟩
  subst hgl hgs
  have HF12 := Lib.hid (HF11.out.pick hR12 hg12)
  have HOA : Hid (OwnFeed w11 (w.heap.size + 1 + 1 + 1) Y1 e1 Y2 e2 bs hs) := HO11a.out.kept hg12 (by omega)
  have HOB : Hid (OwnFeed w11 (w.heap.size + 1 + 1 + 1) V1 e3' V2 e4 cs ks) := ho12.base_le (by have := HF11.out.rd.lt; omega)
  clear ho12 hR12 hg12 HF11 HO11 HO11a
  obtain ⟨a0, a1, a2, a3, a4, a5⟩ := feed_cells HF12.out.ka
  have af := blk_frozen HF12.out.ka
  obtain ⟨b0', b1', b2', b3', b4', b5'⟩ := feed_cells HF12.out.kb
  have bf := blk_frozen HF12.out.kb
  have hne : w.heap.size ≠ w.heap.size + 1 := by omega
  go_wp2
  obtain ⟨U9, HU9⟩ : ∃ U9, Hid (((((((w11.setCell ⟨w.heap.size, 0, none⟩ (.int .i64 fp)).setCell ⟨w.heap.size, 1, none⟩ (.int .i64 fl)).setCell ⟨w.heap.size, 2, none⟩ (.int .i64 fd)).setCell ⟨w.heap.size, 3, none⟩ (.int .i64 fs)).setCell ⟨w.heap.size, 4, none⟩ (.slice Y1 bs.length e1)).setCell ⟨w.heap.size, 5, none⟩ (.slice Y2 hs.length e2)) = U9) := ⟨_, rfl⟩
  have KAU : Hid (Blk U9 w.heap.size 34 (feedC fp fl fd fs Y1 bs.length e1 Y2 hs.length e2)) := by rw [← HU9.out]; exact blk_six HF12.out.ka _ _ _ _ _ _
  have hkU : ∀ i, i ≠ w.heap.size → U9.heap[i]? = w11.heap[i]? := fun i hi => by
    rw [← HU9.out]
    rw [Below.heap_setCell _ ⟨w.heap.size, 5, none⟩ _ i hi, Below.heap_setCell _ ⟨w.heap.size, 4, none⟩ _ i hi, Below.heap_setCell _ ⟨w.heap.size, 3, none⟩ _ i hi, Below.heap_setCell _ ⟨w.heap.size, 2, none⟩ _ i hi, Below.heap_setCell _ ⟨w.heap.size, 1, none⟩ _ i hi, Below.heap_setCell _ ⟨w.heap.size, 0, none⟩ _ i hi]
  have KBU : Hid (Blk U9 (w.heap.size + 1) 34 (feedC 0 0 0 0 none 0 0 none 0 0)) := (hkU (w.heap.size + 1) (by omega)).trans HF12.out.kb
  have HAU : Hid (OwnFeed U9 (w.heap.size + 1 + 1 + 1) Y1 e1 Y2 e2 bs hs) := by rw [← HU9.out]; exact own_six HOA.out HF12.out.ka _ _ _ _ _ _
  have HBU : Hid (OwnFeed U9 (w.heap.size + 1 + 1 + 1) V1 e3' V2 e4 cs ks) := by rw [← HU9.out]; exact own_six HOB.out HF12.out.ka _ _ _ _ _ _
  have HLU : Hid (Below w.heap.size w U9) := by rw [← HU9.out]; exact below_six HF12.out.below (Nat.le_refl _) _ _ _ _ _ _
  clear hkU
  rw [HU9.out]
  obtain ⟨T9, HT9⟩ : ∃ T9, Hid (((((((U9.setCell ⟨w.heap.size + 1, 0, none⟩ (.int .i64 gp)).setCell ⟨w.heap.size + 1, 1, none⟩ (.int .i64 gl)).setCell ⟨w.heap.size + 1, 2, none⟩ (.int .i64 gd)).setCell ⟨w.heap.size + 1, 3, none⟩ (.int .i64 gs)).setCell ⟨w.heap.size + 1, 4, none⟩ (.slice V1 cs.length e3')).setCell ⟨w.heap.size + 1, 5, none⟩ (.slice V2 ks.length e4)) = T9) := ⟨_, rfl⟩
  have KBT : Hid (Blk T9 (w.heap.size + 1) 34 (feedC gp gl gd gs V1 cs.length e3' V2 ks.length e4)) := by rw [← HT9.out]; exact blk_six KBU.out _ _ _ _ _ _
  have KAT : Hid (Blk T9 w.heap.size 34 (feedC fp fl fd fs Y1 bs.length e1 Y2 hs.length e2)) := by
    rw [← HT9.out]
    exact (((((KAU.out.setOther (p := ⟨w.heap.size + 1, 0, none⟩) (by show w.heap.size + 1 ≠ w.heap.size; omega) _).setOther (p := ⟨w.heap.size + 1, 1, none⟩) (by show w.heap.size + 1 ≠ w.heap.size; omega) _).setOther (p := ⟨w.heap.size + 1, 2, none⟩) (by show w.heap.size + 1 ≠ w.heap.size; omega) _).setOther (p := ⟨w.heap.size + 1, 3, none⟩) (by show w.heap.size + 1 ≠ w.heap.size; omega) _).setOther (p := ⟨w.heap.size + 1, 4, none⟩) (by show w.heap.size + 1 ≠ w.heap.size; omega) _).setOther (p := ⟨w.heap.size + 1, 5, none⟩) (by show w.heap.size + 1 ≠ w.heap.size; omega) _
  have HAT : Hid (OwnFeed T9 (w.heap.size + 1 + 1 + 1) Y1 e1 Y2 e2 bs hs) := by rw [← HT9.out]; exact own_six HAU.out KBU.out _ _ _ _ _ _
  have HBT : Hid (OwnFeed T9 (w.heap.size + 1 + 1 + 1) V1 e3' V2 e4 cs ks) := by rw [← HT9.out]; exact own_six HBU.out KBU.out _ _ _ _ _ _
  have HLT : Hid (Below w.heap.size w T9) := by rw [← HT9.out]; exact below_six HLU.out (by omega) _ _ _ _ _ _
  rw [HT9.out]
  obtain ⟨y0, y1, y2, y3, y4, y5⟩ := feed_cells KAT.out
  obtain ⟨x0, x1, x2, x3, x4, x5⟩ := feed_cells KBT.out
  exact bodyPost_ret (v := .tuple #[feedV fp fl fd fs Y1 bs.length e1 Y2 hs.length e2, feedV gp gl gd gs V1 cs.length e3' V2 ks.length e4]) (by simp [results, Try.results13, go_sem, y0, y1, y2, y3, y4, y5, x0, x1, x2, x3, x4, x5]) rfl ⟨_, _, _, _, _, _, _, _, bs, hs, _, _, _, _, _, _, _, _, cs, ks, rfl, HAT.out.base_le (by omega), HBT.out.base_le (by omega), hlb, hlh, hlc, hlk, HZ8.out, HZ11.out, HLT.out⟩

end Go.Proofs.Ytpcjlilfcpfmcaa
