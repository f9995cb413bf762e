/- Contract of withHead: a feed with a head that is at least as long, in memory of its own; nothing that was there is changed. Conditions: the feed lies in memory; the head's length is at most 16 and no less than the number of texts and of bits. -/
import Derived.Test.YtgklkceoafohmaaDoorHeadMath
import Derived.Test.YtgklkceoafohmaaDoorFeedDraw
import Derived.Laws.CopyOwn
import Derived.Deep.DeepCutAuto
namespace Go.Proofs.YtgklkceoafohmaaDoor
open Go.RowKit
set_option linter.unusedVariables false

theorem splice_long {α : Type} (L : List α) (cs : List α) (h : cs.length ≤ L.length) : splice L 0 cs = cs ++ L.drop cs.length := by
  unfold splice; rw [Nat.zero_add]; rfl
theorem splice_sals (bs : List ByteArray) (m : Nat) (h : bs.length ≤ m) : splice (sals (noS m)) 0 (sals bs) = sals (longS bs m) := by
  rw [splice_long _ _ (by rw [sals_length, sals_length, noS_length]; exact h), sals_length]
  unfold longS
  rw [sals_append]
  congr 1
  unfold sals noS
  rw [← List.map_drop, List.drop_replicate]
theorem splice_bals (hs : List Bool) (m : Nat) (h : hs.length ≤ m) : splice (bals (noB m)) 0 (bals hs) = bals (longB hs m) := by
  rw [splice_long _ _ (by rw [bals_length, bals_length, noB_length]; exact h), bals_length]
  unfold longB
  rw [bals_append]
  congr 1
  unfold bals noB
  rw [← List.map_drop, List.drop_replicate]
theorem src_strs {w : World} {B : Nat} {A : Option Addr} {bs : List ByteArray} (h : StrsAt w B A bs) : 0 < (sals bs).length → ∃ ad, A = some ad ∧ ∀ j v, (sals bs)[j]? = some v → w.cell? (ad.add j) = some v := fun hn => by
  rw [sals_length] at hn
  obtain ⟨b, o, e, _, hc⟩ := h hn
  refine ⟨_, e, fun j u hu => ?_⟩
  have hj : j < bs.length := by
    have := (List.getElem?_eq_some_iff.1 hu).1
    rwa [sals_length] at this
  rw [sals_get bs j hj] at hu
  rw [Addr.add_lit, ← hu]
  exact hc j hj
theorem src_bools {w : World} {B : Nat} {A : Option Addr} {bs : List Bool} (h : BoolsAt w B A bs) : 0 < (bals bs).length → ∃ ad, A = some ad ∧ ∀ j v, (bals bs)[j]? = some v → w.cell? (ad.add j) = some v := fun hn => by
  rw [bals_length] at hn
  obtain ⟨b, o, e, _, hc⟩ := h hn
  refine ⟨_, e, fun j u hu => ?_⟩
  have hj : j < bs.length := by
    have := (List.getElem?_eq_some_iff.1 hu).1
    rwa [bals_length] at this
  rw [bals_get bs j hj] at hu
  rw [Addr.add_lit, ← hu]
  exact hc j hj
theorem owns_blk {w : World} {g base : Nat} {zs : List ByteArray} (h : Blk w g 9 (sals zs).toArray) (hb : base ≤ g) (hl : zs.length ≤ maxLen) : OwnStrs w base (some ⟨g, 0, none⟩) zs.length zs :=
  ⟨by rw [sals_length, Nat.mul_one], .inr ⟨g, zs.length, _, rfl, hb, h, Nat.le_refl _, hl, by rw [List.size_toArray, sals_length, Nat.mul_one], by
    show (sals zs).take _ = _
    exact List.take_of_length_le (by rw [sals_length, Nat.mul_one]; exact Nat.le_refl _)⟩⟩
theorem ownb_blk {w : World} {g base : Nat} {zs : List Bool} (h : Blk w g 4 (bals zs).toArray) (hb : base ≤ g) (hl : zs.length ≤ maxLen) : OwnBools w base (some ⟨g, 0, none⟩) zs.length zs :=
  ⟨by rw [bals_length, Nat.mul_one], .inr ⟨g, zs.length, _, rfl, hb, h, Nat.le_refl _, hl, by rw [List.size_toArray, bals_length, Nat.mul_one], by
    show (bals zs).take _ = _
    exact List.take_of_length_le (by rw [bals_length, Nat.mul_one]; exact Nat.le_refl _)⟩⟩

/-- A copy onto the beginning of a row that is known whole: every other block is kept. -/
theorem wpList_copy_row {P : Program} {w : World} {ops : Array Oper} {rest : List Oper} {o : Oper} {a : Act} {Q : Exit → Act → World → Prop} (hgd : o.guard = none) (d s : Operand) (dT sT : TypeId)
    (ho : o.op = .call { callee := .builtin .copy, args := #[d, s], argTypes := #[dT, sT] }) (elem : TypeId) (hu : P.underlying dT = some (.slice elem)) (hsz : (P.info? elem).map (·.size) = some 1)
    (g : Nat) (sp : Option Addr) (dLen dCap sLen sCap : Nat) (hd : a.eval d = .slice (some ⟨g, 0, none⟩) dLen dCap) (hs : a.eval s = .slice sp sLen sCap)
    (cur : List Value) (t : TypeId) (hg : w.heap[g]? = some (.cells cur.toArray t (0, 0))) (cs : List Value) (hn : cs.length = Nat.min sLen dLen)
    (hpos : 0 < cs.length → ∃ ad, sp = some ad ∧ ∀ j v, cs[j]? = some v → w.cell? (ad.add j) = some v)
    (hfit : cs.length ≤ cur.length) (h1 : ∀ v ∈ cs, v.oneCell' = true)
    (h : ∀ w', Hid (w'.heap[g]? = some (.cells (splice cur 0 cs).toArray t (0, 0))) → w.grownBy w' (some g) → wpList P ops Q rest (a.put o.dst (goInt cs.length)) w') :
    wpList P ops Q (o :: rest) a w := by
  by_cases h0 : cs.length = 0
  · obtain rfl : cs = [] := List.eq_nil_of_length_eq_zero h0
    refine wpList_copy_nothing hgd d s dT sT ho elem hu hsz _ sp dLen dCap sLen sCap hd hs (by simpa using hn.symm) ?_
    exact h w (show _ = _ by simpa [splice] using hg) (World.grownBy.refl w _)
  · obtain ⟨ad, rfl, hsrc⟩ := hpos (by omega)
    refine wpList_copy_own hgd d s dT sT ho elem hu hsz g 0 dLen dCap ad sLen sCap hd hs cur.toArray t hg cs hn hsrc (by simpa using hfit) h1 ?_
    exact h _ (show _ = _ by simpa [splice] using setRow_heap w g _ _ t _ hg) ⟨rfl, rfl, rfl, by simp [World.setRow], fun k hk hne => setRow_other w g k _ (fun e => hne (by rw [e]))⟩

set_option maxHeartbeats 8000000 in
set_option maxRecDepth 100000 in
theorem withHead_any (p l d s : Int) (A1 : Option Addr) (c1 : Nat) (A2 : Option Addr) (c2 : Nat) (bs : List ByteArray) (hs : List Bool) (m : Nat) (hd ht : Int) (w : World) (hF : FeedAt w w.heap.size A1 A2 bs hs) (h16 : m ≤ 16) (hbm : bs.length ≤ m) (hhm : hs.length ≤ m) :
    Calls Tryd.prog 37 #[feedV p l d s A1 bs.length c1 A2 hs.length c2, headV (m : Int) hd ht] w (FeedMade w p m hd ht (longS bs m) (longB hs m)) := by
  have HF := Lib.hid hF
  have HFIT : Hid (Fit (longS bs m)) := fun k => by rw [sth_longS]; exact hF.fit k
  clear hF
  obtain ⟨nb, HNB⟩ : ∃ n, Hid (bs.length = n) := ⟨_, rfl⟩
  obtain ⟨nh, HNH⟩ : ∃ n, Hid (hs.length = n) := ⟨_, rfl⟩
  have HLS : Hid ((longS bs m).length = m) := longS_length hbm
  have HLB : Hid ((longB hs m).length = m) := longB_length hhm
  have HSP : Hid (splice (sals (noS m)) 0 (sals bs) = sals (longS bs m)) := splice_sals bs m hbm
  have HSB : Hid (splice (bals (noB m)) 0 (bals hs) = bals (longB hs m)) := splice_bals hs m hhm
  rw [HNB.out] at hbm ⊢
  rw [HNH.out] at hhm ⊢
  obtain ⟨W, HW⟩ : ∃ W, Hid (((w.alloc (.cells (feedC p l d s A1 nb c1 A2 nh c2) 28)).alloc (.cells #[.int .i64 (m : Int), .int .i64 hd, .int .i64 ht] 24)).alloc (.cells (feedC 0 0 0 0 none 0 0 none 0 0) 28) = W) := ⟨_, rfl⟩
  have KF : Hid (Blk W w.heap.size 28 (feedC p l d s A1 nb c1 A2 nh c2)) := by rw [← HW.out]; exact ((Blk.new w _ _).alloc _).alloc _
  have KH : Hid (Blk W (w.heap.size + 1) 24 #[.int .i64 (m : Int), .int .i64 hd, .int .i64 ht]) := by
    rw [← HW.out]
    have h := (Blk.new (w.alloc (.cells (feedC p l d s A1 nb c1 A2 nh c2) 28)) 24 #[.int .i64 (m : Int), .int .i64 hd, .int .i64 ht]).alloc (.cells (feedC 0 0 0 0 none 0 0 none 0 0) 28)
    rw [World.size_alloc] at h
    exact h
  have KZ : Hid (Blk W (w.heap.size + 1 + 1) 28 (feedC 0 0 0 0 none 0 0 none 0 0)) := by
    rw [← HW.out]
    have h := Blk.new ((w.alloc (.cells (feedC p l d s A1 nb c1 A2 nh c2) 28)).alloc (.cells #[.int .i64 (m : Int), .int .i64 hd, .int .i64 ht] 24)) 28 (feedC 0 0 0 0 none 0 0 none 0 0)
    rw [World.size_alloc, World.size_alloc] at h
    exact h
  have HB : Hid (Below w.heap.size w W) := by rw [← HW.out]; exact (((Below.refl _ w).alloc (Nat.le_refl _) _).alloc (by simp) _).alloc (by simp; omega) _
  have hmkS := run_make_row' (P := Tryd.prog) 25 9 (.string ByteArray.empty) 16 Tryd.underlying25 string_info rfl .i64 .i64 m (by omega) (by omega)
  simp only [madeCells_sals] at hmkS
  have hmkB := run_make_row' (P := Tryd.prog) 26 4 (.bool false) 1 Tryd.underlying26 bool_info rfl .i64 .i64 m (by omega) (by omega)
  simp only [madeCells_bals] at hmkB
  go_enter Tryd.func37, Tryd.ntmps37
  go_upto_region 1 with fail
  rw [HW.out]
  go_cut [5] (fun s5 wx => ∃ gx gs gb : Nat, s5 = .pointer (some ⟨gx, 0, none⟩) ∧ w.heap.size + 1 + 1 < gx ∧ w.heap.size + 1 + 1 < gs ∧ w.heap.size + 1 + 1 < gb ∧ gx ≠ gs ∧ gx ≠ gb ∧ gs ≠ gb ∧ Hid (Blk wx gx 28 (feedC p (m : Int) hd ht (some ⟨gs, 0, none⟩) m m (some ⟨gb, 0, none⟩) m m)) ∧ Hid (Blk wx gs 9 (sals (noS m)).toArray) ∧ Hid (Blk wx gb 4 (bals (noB m)).toArray) ∧ Hid (Blk wx (w.heap.size + 1 + 1) 28 (feedC 0 0 0 0 none 0 0 none 0 0)) ∧ Hid (Blk wx w.heap.size 28 (feedC p l d s A1 nb c1 A2 nh c2)) ∧ Hid (Below w.heap.size w wx))
  case first =>
    (try go_wp2_with fail)
    refine wp_region_held_drew (S := fun w' => (w'.cell? ⟨w.heap.size, 0, none⟩ = some (.int .i64 p) ∧ w'.cell? ⟨w.heap.size, 1, none⟩ = some (.int .i64 l) ∧ w'.cell? ⟨w.heap.size, 2, none⟩ = some (.int .i64 d) ∧ w'.cell? ⟨w.heap.size, 3, none⟩ = some (.int .i64 s) ∧ w'.cell? ⟨w.heap.size, 4, none⟩ = some (.slice A1 nb c1) ∧ w'.cell? ⟨w.heap.size, 5, none⟩ = some (.slice A2 nh c2)) ∧ w'.cell? ⟨w.heap.size + 1, 0, none⟩ = some (.int .i64 (m : Int)) ∧ w'.cell? ⟨w.heap.size + 1, 1, none⟩ = some (.int .i64 hd) ∧ w'.cell? ⟨w.heap.size + 1, 2, none⟩ = some (.int .i64 ht)) (by kernel_rfl) (⟨feed_cells KF.out, KH.out.cell 0, KH.out.cell 1, KH.out.cell 2⟩) (fun hHeld => ?_)
    obtain ⟨U0, HU0⟩ : ∃ U, Hid (W.drew = U) := ⟨_, rfl⟩
    have KF0 : Hid (Blk U0 w.heap.size 28 (feedC p l d s A1 nb c1 A2 nh c2)) := by rw [← HU0.out]; exact KF.out
    have KH0 : Hid (Blk U0 (w.heap.size + 1) 24 #[.int .i64 (m : Int), .int .i64 hd, .int .i64 ht]) := by rw [← HU0.out]; exact KH.out
    have KZ0 : Hid (Blk U0 (w.heap.size + 1 + 1) 28 (feedC 0 0 0 0 none 0 0 none 0 0)) := by rw [← HU0.out]; exact KZ.out
    have HB0 : Hid (Below w.heap.size w U0) := by rw [← HU0.out]; exact below_drew HB.out
    have hz0 : w.heap.size + 1 + 1 < U0.heap.size := KZ0.out.lt
    rw [HU0.out] at hHeld ⊢
    refine wpAnyH_take (i := 0) (v := ?zv1) rfl (by kernel_rfl) (by kernel_rfl) (by kernel_rfl) (fun _ _ _ h => h) (Or.inl ⟨by kernel_rfl, ?zy1⟩) (by assumption) ?zr1
    case zy1 => (intro w hSw; (try dsimp only at hSw); go_simp; try with_reducible rfl)
    change wpAnyH _ _ _ _ _ _ _ (Act.put _ (some 6) _) _
    simp only [Act.put, List.setIfInBounds_toArray, List.set_cons_zero, List.set_cons_succ]
    refine wpAnyH_take (i := 2) (v := ?zv2) rfl (by kernel_rfl) (by kernel_rfl) (by kernel_rfl) (fun _ _ _ h => h) (Or.inl ⟨by kernel_rfl, ?zy2⟩) (by assumption) ?zr2
    case zy2 => (intro w hSw; (try dsimp only at hSw); go_simp; try with_reducible rfl)
    change wpAnyH _ _ _ _ _ _ _ (Act.put _ (some 8) _) _
    simp only [Act.put, List.setIfInBounds_toArray, List.set_cons_zero, List.set_cons_succ]
    refine wpAnyH_take (i := 3) (v := ?zv3) rfl (by kernel_rfl) (by kernel_rfl) (by kernel_rfl) (fun _ _ _ h => h) (Or.inl ⟨by kernel_rfl, ?zy3⟩) (by assumption) ?zr3
    case zy3 => (intro w hSw; (try dsimp only at hSw); go_simp; try with_reducible rfl)
    change wpAnyH _ _ _ _ _ _ _ (Act.put _ (some 9) _) _
    simp only [Act.put, List.setIfInBounds_toArray, List.set_cons_zero, List.set_cons_succ]
    refine wpAnyH_take (i := 6) (v := ?zv4) rfl (by kernel_rfl) (by kernel_rfl) (by kernel_rfl) (fun _ _ _ h => h) (Or.inl ⟨by kernel_rfl, ?zy4⟩) (by assumption) ?zr4
    case zy4 => (intro w hSw; (try dsimp only at hSw); go_simp; try with_reducible rfl)
    change wpAnyH _ _ _ _ _ _ _ (Act.put _ (some 12) _) _
    simp only [Act.put, List.setIfInBounds_toArray, List.set_cons_zero, List.set_cons_succ]
    refine wpAnyH_take (i := 1) (v := ?zv5) rfl (by kernel_rfl) (by kernel_rfl) (by kernel_rfl) (fun _ _ _ h => h) (Or.inl ⟨by kernel_rfl, ?zy5⟩) (by assumption) ?zr5
    case zy5 => (intro w hSw; (try dsimp only at hSw); go_simp; try with_reducible rfl)
    change wpAnyH _ _ _ _ _ _ _ (Act.put _ (some 7) _) _
    simp only [Act.put, List.setIfInBounds_toArray, List.set_cons_zero, List.set_cons_succ]
    refine wpAnyH_take (i := 4) (v := ?zv6) rfl (by kernel_rfl) (by kernel_rfl) (by kernel_rfl) (fun _ _ _ h => h) (Or.inl ⟨by kernel_rfl, ?zy6⟩) (by assumption) ?zr6
    case zy6 => (intro w hSw; (try dsimp only at hSw); go_simp; try with_reducible rfl)
    change wpAnyH _ _ _ _ _ _ _ (Act.put _ (some 10) _) _
    simp only [Act.put, List.setIfInBounds_toArray, List.set_cons_zero, List.set_cons_succ]
    refine wpAnyH_take (i := 7) (v := ?zv7) rfl (by kernel_rfl) (by kernel_rfl) (by kernel_rfl) (fun _ _ _ h => h) (Or.inl ⟨by kernel_rfl, ?zy7⟩) (by assumption) ?zr7
    case zy7 => (intro w hSw; (try dsimp only at hSw); go_simp; try with_reducible rfl)
    change wpAnyH _ _ _ _ _ _ _ (Act.put _ (some 13) _) _
    simp only [Act.put, List.setIfInBounds_toArray, List.set_cons_zero, List.set_cons_succ]
    refine wpAnyH_ready (rs := [5, 8, 10]) (by kernel_rfl) (by simp) (AllReadyH.cons rfl (fun K hK => ?zo8_0) (AllReadyH.cons rfl (fun K hK => ?zo8_1) (AllReadyH.cons rfl (fun K hK => ?zo8_2) AllReadyH.nil)))
    case zo8_0 =>
      go_simp
      refine hK.out _ _ (⟨feed_cells (KF0.out.alloc _), (KH0.out.alloc _).cell 0, (KH0.out.alloc _).cell 1, (KH0.out.alloc _).cell 2⟩) (fun hHeld => ?_)
      clear hK K
      (try simp only [Act.put, List.setIfInBounds_toArray, List.set_cons_zero, List.set_cons_succ])
      obtain ⟨U1, HU1⟩ : ∃ U, Hid (U0.alloc (.cells (sals (noS m)).toArray 9) = U) := ⟨_, rfl⟩
      have hb1 : Below U0.heap.size U0 U1 := by rw [← HU1.out]; exact (Below.refl _ _).alloc (Nat.le_refl _) _
      have KF1 := Lib.hid (KF0.out.below hb1 KF0.out.lt)
      have KH1 := Lib.hid (KH0.out.below hb1 KH0.out.lt)
      have KZ1 := Lib.hid (KZ0.out.below hb1 KZ0.out.lt)
      have HB1 : Hid (Below w.heap.size w U1) := HB0.out.trans (hb1.mono HB0.out.size)
      have KS1 : Hid (Blk U1 U0.heap.size 9 (sals (noS m)).toArray) := by rw [← HU1.out]; exact Blk.new U0 _ _
      have hz1 : U0.heap.size < U1.heap.size := KS1.out.lt
      rw [HU1.out] at hHeld ⊢
      refine wpAnyH_ready (rs := [8, 10]) (by kernel_rfl) (by simp) (AllReadyH.cons rfl (fun K hK => ?zo9_0) (AllReadyH.cons rfl (fun K hK => ?zo9_1) AllReadyH.nil))
      case zo9_0 =>
        go_simp
        refine hK.out _ _ (⟨feed_cells (KF1.out.alloc _), (KH1.out.alloc _).cell 0, (KH1.out.alloc _).cell 1, (KH1.out.alloc _).cell 2⟩) (fun hHeld => ?_)
        clear hK K
        (try simp only [Act.put, List.setIfInBounds_toArray, List.set_cons_zero, List.set_cons_succ])
        obtain ⟨U2, HU2⟩ : ∃ U, Hid (U1.alloc (.cells (bals (noB m)).toArray 4) = U) := ⟨_, rfl⟩
        have hb2 : Below U1.heap.size U1 U2 := by rw [← HU2.out]; exact (Below.refl _ _).alloc (Nat.le_refl _) _
        have KF2 := Lib.hid (KF1.out.below hb2 KF1.out.lt)
        have KH2 := Lib.hid (KH1.out.below hb2 KH1.out.lt)
        have KZ2 := Lib.hid (KZ1.out.below hb2 KZ1.out.lt)
        have HB2 : Hid (Below w.heap.size w U2) := HB1.out.trans (hb2.mono HB1.out.size)
        have KS2 := Lib.hid (KS1.out.below hb2 KS1.out.lt)
        have KB2 : Hid (Blk U2 U1.heap.size 4 (bals (noB m)).toArray) := by rw [← HU2.out]; exact Blk.new U1 _ _
        have hz2 : U1.heap.size < U2.heap.size := KB2.out.lt
        rw [HU2.out] at hHeld ⊢
        refine wpAnyH_take (i := 9) (v := ?zv10) rfl (by kernel_rfl) (by kernel_rfl) (by kernel_rfl) (fun _ _ _ h => h) (Or.inl ⟨by kernel_rfl, ?zy10⟩) (by assumption) ?zr10
        case zy10 => (intro w hSw; (try dsimp only at hSw); go_simp; try with_reducible rfl)
        change wpAnyH _ _ _ _ _ _ _ (Act.put _ (some 15) _) _
        simp only [Act.put, List.setIfInBounds_toArray, List.set_cons_zero, List.set_cons_succ]
        refine wpAnyH_ready (rs := [10]) (by kernel_rfl) (by simp) (AllReadyH.cons rfl (fun K hK => ?zo11_0) AllReadyH.nil)
        case zo11_0 =>
          go_simp
          refine hK.out _ _ (⟨feed_cells (KF2.out.alloc _), (KH2.out.alloc _).cell 0, (KH2.out.alloc _).cell 1, (KH2.out.alloc _).cell 2⟩) (fun hHeld => ?_)
          clear hK K
          (try simp only [Act.put, List.setIfInBounds_toArray, List.set_cons_zero, List.set_cons_succ])
          obtain ⟨U3, HU3⟩ : ∃ U, Hid (U2.alloc (.cells (feedC 0 0 0 0 none 0 0 none 0 0) 28) = U) := ⟨_, rfl⟩
          have hb3 : Below U2.heap.size U2 U3 := by rw [← HU3.out]; exact (Below.refl _ _).alloc (Nat.le_refl _) _
          have KF3 := Lib.hid (KF2.out.below hb3 KF2.out.lt)
          have KH3 := Lib.hid (KH2.out.below hb3 KH2.out.lt)
          have KZ3 := Lib.hid (KZ2.out.below hb3 KZ2.out.lt)
          have HB3 : Hid (Below w.heap.size w U3) := HB2.out.trans (hb3.mono HB2.out.size)
          have KS3 := Lib.hid (KS2.out.below hb3 KS2.out.lt)
          have KB3 := Lib.hid (KB2.out.below hb3 KB2.out.lt)
          have KX3 : Hid (Blk U3 U2.heap.size 28 (feedC 0 0 0 0 none 0 0 none 0 0)) := by rw [← HU3.out]; exact Blk.new U2 _ _
          have hz3 : U2.heap.size < U3.heap.size := KX3.out.lt
          rw [HU3.out] at hHeld ⊢
          refine wpAnyH_ready (rs := [11]) (by kernel_rfl) (by simp) (AllReadyH.cons rfl (fun K hK => ?zo12_0) AllReadyH.nil)
          case zo12_0 =>
            go_simp
            obtain ⟨n0, n1, n2, n3, n4, n5⟩ := feed_cells KX3.out
            have nf := blk_frozen KX3.out
            obtain ⟨U4, HU4⟩ : ∃ U, Hid (((((((U3.setCell ⟨U2.heap.size, 0, none⟩ (.int .i64 p)).setCell ⟨U2.heap.size, 1, none⟩ (.int .i64 (m : Int))).setCell ⟨U2.heap.size, 2, none⟩ (.int .i64 hd)).setCell ⟨U2.heap.size, 3, none⟩ (.int .i64 ht)).setCell ⟨U2.heap.size, 4, none⟩ (.slice (some ⟨U0.heap.size, 0, none⟩) m m)).setCell ⟨U2.heap.size, 5, none⟩ (.slice (some ⟨U1.heap.size, 0, none⟩) m m)) = U) := ⟨_, rfl⟩
            have KF4 : Hid (Blk U4 (w.heap.size) 28 (feedC p l d s A1 nb c1 A2 nh c2)) := by rw [← HU4.out]; exact ((((((KF3.out.setOther (p := ⟨U2.heap.size, 0, none⟩) (by show U2.heap.size ≠ w.heap.size; omega) _).setOther (p := ⟨U2.heap.size, 1, none⟩) (by show U2.heap.size ≠ w.heap.size; omega) _).setOther (p := ⟨U2.heap.size, 2, none⟩) (by show U2.heap.size ≠ w.heap.size; omega) _).setOther (p := ⟨U2.heap.size, 3, none⟩) (by show U2.heap.size ≠ w.heap.size; omega) _).setOther (p := ⟨U2.heap.size, 4, none⟩) (by show U2.heap.size ≠ w.heap.size; omega) _).setOther (p := ⟨U2.heap.size, 5, none⟩) (by show U2.heap.size ≠ w.heap.size; omega) _)
            have KH4 : Hid (Blk U4 (w.heap.size + 1) 24 #[.int .i64 (m : Int), .int .i64 hd, .int .i64 ht]) := by rw [← HU4.out]; exact ((((((KH3.out.setOther (p := ⟨U2.heap.size, 0, none⟩) (by show U2.heap.size ≠ w.heap.size + 1; omega) _).setOther (p := ⟨U2.heap.size, 1, none⟩) (by show U2.heap.size ≠ w.heap.size + 1; omega) _).setOther (p := ⟨U2.heap.size, 2, none⟩) (by show U2.heap.size ≠ w.heap.size + 1; omega) _).setOther (p := ⟨U2.heap.size, 3, none⟩) (by show U2.heap.size ≠ w.heap.size + 1; omega) _).setOther (p := ⟨U2.heap.size, 4, none⟩) (by show U2.heap.size ≠ w.heap.size + 1; omega) _).setOther (p := ⟨U2.heap.size, 5, none⟩) (by show U2.heap.size ≠ w.heap.size + 1; omega) _)
            have KZ4 : Hid (Blk U4 (w.heap.size + 1 + 1) 28 (feedC 0 0 0 0 none 0 0 none 0 0)) := by rw [← HU4.out]; exact ((((((KZ3.out.setOther (p := ⟨U2.heap.size, 0, none⟩) (by show U2.heap.size ≠ w.heap.size + 1 + 1; omega) _).setOther (p := ⟨U2.heap.size, 1, none⟩) (by show U2.heap.size ≠ w.heap.size + 1 + 1; omega) _).setOther (p := ⟨U2.heap.size, 2, none⟩) (by show U2.heap.size ≠ w.heap.size + 1 + 1; omega) _).setOther (p := ⟨U2.heap.size, 3, none⟩) (by show U2.heap.size ≠ w.heap.size + 1 + 1; omega) _).setOther (p := ⟨U2.heap.size, 4, none⟩) (by show U2.heap.size ≠ w.heap.size + 1 + 1; omega) _).setOther (p := ⟨U2.heap.size, 5, none⟩) (by show U2.heap.size ≠ w.heap.size + 1 + 1; omega) _)
            have KS4 : Hid (Blk U4 (U0.heap.size) 9 (sals (noS m)).toArray) := by rw [← HU4.out]; exact ((((((KS3.out.setOther (p := ⟨U2.heap.size, 0, none⟩) (by show U2.heap.size ≠ U0.heap.size; omega) _).setOther (p := ⟨U2.heap.size, 1, none⟩) (by show U2.heap.size ≠ U0.heap.size; omega) _).setOther (p := ⟨U2.heap.size, 2, none⟩) (by show U2.heap.size ≠ U0.heap.size; omega) _).setOther (p := ⟨U2.heap.size, 3, none⟩) (by show U2.heap.size ≠ U0.heap.size; omega) _).setOther (p := ⟨U2.heap.size, 4, none⟩) (by show U2.heap.size ≠ U0.heap.size; omega) _).setOther (p := ⟨U2.heap.size, 5, none⟩) (by show U2.heap.size ≠ U0.heap.size; omega) _)
            have KB4 : Hid (Blk U4 (U1.heap.size) 4 (bals (noB m)).toArray) := by rw [← HU4.out]; exact ((((((KB3.out.setOther (p := ⟨U2.heap.size, 0, none⟩) (by show U2.heap.size ≠ U1.heap.size; omega) _).setOther (p := ⟨U2.heap.size, 1, none⟩) (by show U2.heap.size ≠ U1.heap.size; omega) _).setOther (p := ⟨U2.heap.size, 2, none⟩) (by show U2.heap.size ≠ U1.heap.size; omega) _).setOther (p := ⟨U2.heap.size, 3, none⟩) (by show U2.heap.size ≠ U1.heap.size; omega) _).setOther (p := ⟨U2.heap.size, 4, none⟩) (by show U2.heap.size ≠ U1.heap.size; omega) _).setOther (p := ⟨U2.heap.size, 5, none⟩) (by show U2.heap.size ≠ U1.heap.size; omega) _)
            have KX4 : Hid (Blk U4 U2.heap.size 28 (feedC p (m : Int) hd ht (some ⟨U0.heap.size, 0, none⟩) m m (some ⟨U1.heap.size, 0, none⟩) m m)) := by rw [← HU4.out]; exact blk_six KX3.out _ _ _ _ _ _
            have HB4 : Hid (Below w.heap.size w U4) := by rw [← HU4.out]; exact below_six HB3.out (by omega) _ _ _ _ _ _
            go_simp
            rw [HU4.out]
            refine hK.out _ _ (⟨feed_cells KF4.out, KH4.out.cell 0, KH4.out.cell 1, KH4.out.cell 2⟩) (fun hHeld => ?_)
            clear hK K
            (try simp only [Act.put])
            refine wpAnyH_done (by kernel_rfl) ?_ _
            (try go_wp2_with fail)
            go_meet
            exact ⟨_, _, _, rfl, by omega, by omega, by omega, by omega, by omega, by omega, KX4, KS4, KB4, KZ4, KF4, HB4⟩
      case zo9_1 =>
        go_simp
        refine hK.out _ _ (⟨feed_cells (KF1.out.alloc _), (KH1.out.alloc _).cell 0, (KH1.out.alloc _).cell 1, (KH1.out.alloc _).cell 2⟩) (fun hHeld => ?_)
        clear hK K
        (try simp only [Act.put, List.setIfInBounds_toArray, List.set_cons_zero, List.set_cons_succ])
        obtain ⟨U2, HU2⟩ : ∃ U, Hid (U1.alloc (.cells (feedC 0 0 0 0 none 0 0 none 0 0) 28) = U) := ⟨_, rfl⟩
        have hb2 : Below U1.heap.size U1 U2 := by rw [← HU2.out]; exact (Below.refl _ _).alloc (Nat.le_refl _) _
        have KF2 := Lib.hid (KF1.out.below hb2 KF1.out.lt)
        have KH2 := Lib.hid (KH1.out.below hb2 KH1.out.lt)
        have KZ2 := Lib.hid (KZ1.out.below hb2 KZ1.out.lt)
        have HB2 : Hid (Below w.heap.size w U2) := HB1.out.trans (hb2.mono HB1.out.size)
        have KS2 := Lib.hid (KS1.out.below hb2 KS1.out.lt)
        have KX2 : Hid (Blk U2 U1.heap.size 28 (feedC 0 0 0 0 none 0 0 none 0 0)) := by rw [← HU2.out]; exact Blk.new U1 _ _
        have hz2 : U1.heap.size < U2.heap.size := KX2.out.lt
        rw [HU2.out] at hHeld ⊢
        refine wpAnyH_ready (rs := [8]) (by kernel_rfl) (by simp) (AllReadyH.cons rfl (fun K hK => ?zo13_0) AllReadyH.nil)
        case zo13_0 =>
          go_simp
          refine hK.out _ _ (⟨feed_cells (KF2.out.alloc _), (KH2.out.alloc _).cell 0, (KH2.out.alloc _).cell 1, (KH2.out.alloc _).cell 2⟩) (fun hHeld => ?_)
          clear hK K
          (try simp only [Act.put, List.setIfInBounds_toArray, List.set_cons_zero, List.set_cons_succ])
          obtain ⟨U3, HU3⟩ : ∃ U, Hid (U2.alloc (.cells (bals (noB m)).toArray 4) = U) := ⟨_, rfl⟩
          have hb3 : Below U2.heap.size U2 U3 := by rw [← HU3.out]; exact (Below.refl _ _).alloc (Nat.le_refl _) _
          have KF3 := Lib.hid (KF2.out.below hb3 KF2.out.lt)
          have KH3 := Lib.hid (KH2.out.below hb3 KH2.out.lt)
          have KZ3 := Lib.hid (KZ2.out.below hb3 KZ2.out.lt)
          have HB3 : Hid (Below w.heap.size w U3) := HB2.out.trans (hb3.mono HB2.out.size)
          have KS3 := Lib.hid (KS2.out.below hb3 KS2.out.lt)
          have KX3 := Lib.hid (KX2.out.below hb3 KX2.out.lt)
          have KB3 : Hid (Blk U3 U2.heap.size 4 (bals (noB m)).toArray) := by rw [← HU3.out]; exact Blk.new U2 _ _
          have hz3 : U2.heap.size < U3.heap.size := KB3.out.lt
          rw [HU3.out] at hHeld ⊢
          refine wpAnyH_take (i := 9) (v := ?zv14) rfl (by kernel_rfl) (by kernel_rfl) (by kernel_rfl) (fun _ _ _ h => h) (Or.inl ⟨by kernel_rfl, ?zy14⟩) (by assumption) ?zr14
          case zy14 => (intro w hSw; (try dsimp only at hSw); go_simp; try with_reducible rfl)
          change wpAnyH _ _ _ _ _ _ _ (Act.put _ (some 15) _) _
          simp only [Act.put, List.setIfInBounds_toArray, List.set_cons_zero, List.set_cons_succ]
          refine wpAnyH_ready (rs := [11]) (by kernel_rfl) (by simp) (AllReadyH.cons rfl (fun K hK => ?zo15_0) AllReadyH.nil)
          case zo15_0 =>
            go_simp
            obtain ⟨n0, n1, n2, n3, n4, n5⟩ := feed_cells KX3.out
            have nf := blk_frozen KX3.out
            obtain ⟨U4, HU4⟩ : ∃ U, Hid (((((((U3.setCell ⟨U1.heap.size, 0, none⟩ (.int .i64 p)).setCell ⟨U1.heap.size, 1, none⟩ (.int .i64 (m : Int))).setCell ⟨U1.heap.size, 2, none⟩ (.int .i64 hd)).setCell ⟨U1.heap.size, 3, none⟩ (.int .i64 ht)).setCell ⟨U1.heap.size, 4, none⟩ (.slice (some ⟨U0.heap.size, 0, none⟩) m m)).setCell ⟨U1.heap.size, 5, none⟩ (.slice (some ⟨U2.heap.size, 0, none⟩) m m)) = U) := ⟨_, rfl⟩
            have KF4 : Hid (Blk U4 (w.heap.size) 28 (feedC p l d s A1 nb c1 A2 nh c2)) := by rw [← HU4.out]; exact ((((((KF3.out.setOther (p := ⟨U1.heap.size, 0, none⟩) (by show U1.heap.size ≠ w.heap.size; omega) _).setOther (p := ⟨U1.heap.size, 1, none⟩) (by show U1.heap.size ≠ w.heap.size; omega) _).setOther (p := ⟨U1.heap.size, 2, none⟩) (by show U1.heap.size ≠ w.heap.size; omega) _).setOther (p := ⟨U1.heap.size, 3, none⟩) (by show U1.heap.size ≠ w.heap.size; omega) _).setOther (p := ⟨U1.heap.size, 4, none⟩) (by show U1.heap.size ≠ w.heap.size; omega) _).setOther (p := ⟨U1.heap.size, 5, none⟩) (by show U1.heap.size ≠ w.heap.size; omega) _)
            have KH4 : Hid (Blk U4 (w.heap.size + 1) 24 #[.int .i64 (m : Int), .int .i64 hd, .int .i64 ht]) := by rw [← HU4.out]; exact ((((((KH3.out.setOther (p := ⟨U1.heap.size, 0, none⟩) (by show U1.heap.size ≠ w.heap.size + 1; omega) _).setOther (p := ⟨U1.heap.size, 1, none⟩) (by show U1.heap.size ≠ w.heap.size + 1; omega) _).setOther (p := ⟨U1.heap.size, 2, none⟩) (by show U1.heap.size ≠ w.heap.size + 1; omega) _).setOther (p := ⟨U1.heap.size, 3, none⟩) (by show U1.heap.size ≠ w.heap.size + 1; omega) _).setOther (p := ⟨U1.heap.size, 4, none⟩) (by show U1.heap.size ≠ w.heap.size + 1; omega) _).setOther (p := ⟨U1.heap.size, 5, none⟩) (by show U1.heap.size ≠ w.heap.size + 1; omega) _)
            have KZ4 : Hid (Blk U4 (w.heap.size + 1 + 1) 28 (feedC 0 0 0 0 none 0 0 none 0 0)) := by rw [← HU4.out]; exact ((((((KZ3.out.setOther (p := ⟨U1.heap.size, 0, none⟩) (by show U1.heap.size ≠ w.heap.size + 1 + 1; omega) _).setOther (p := ⟨U1.heap.size, 1, none⟩) (by show U1.heap.size ≠ w.heap.size + 1 + 1; omega) _).setOther (p := ⟨U1.heap.size, 2, none⟩) (by show U1.heap.size ≠ w.heap.size + 1 + 1; omega) _).setOther (p := ⟨U1.heap.size, 3, none⟩) (by show U1.heap.size ≠ w.heap.size + 1 + 1; omega) _).setOther (p := ⟨U1.heap.size, 4, none⟩) (by show U1.heap.size ≠ w.heap.size + 1 + 1; omega) _).setOther (p := ⟨U1.heap.size, 5, none⟩) (by show U1.heap.size ≠ w.heap.size + 1 + 1; omega) _)
            have KS4 : Hid (Blk U4 (U0.heap.size) 9 (sals (noS m)).toArray) := by rw [← HU4.out]; exact ((((((KS3.out.setOther (p := ⟨U1.heap.size, 0, none⟩) (by show U1.heap.size ≠ U0.heap.size; omega) _).setOther (p := ⟨U1.heap.size, 1, none⟩) (by show U1.heap.size ≠ U0.heap.size; omega) _).setOther (p := ⟨U1.heap.size, 2, none⟩) (by show U1.heap.size ≠ U0.heap.size; omega) _).setOther (p := ⟨U1.heap.size, 3, none⟩) (by show U1.heap.size ≠ U0.heap.size; omega) _).setOther (p := ⟨U1.heap.size, 4, none⟩) (by show U1.heap.size ≠ U0.heap.size; omega) _).setOther (p := ⟨U1.heap.size, 5, none⟩) (by show U1.heap.size ≠ U0.heap.size; omega) _)
            have KB4 : Hid (Blk U4 (U2.heap.size) 4 (bals (noB m)).toArray) := by rw [← HU4.out]; exact ((((((KB3.out.setOther (p := ⟨U1.heap.size, 0, none⟩) (by show U1.heap.size ≠ U2.heap.size; omega) _).setOther (p := ⟨U1.heap.size, 1, none⟩) (by show U1.heap.size ≠ U2.heap.size; omega) _).setOther (p := ⟨U1.heap.size, 2, none⟩) (by show U1.heap.size ≠ U2.heap.size; omega) _).setOther (p := ⟨U1.heap.size, 3, none⟩) (by show U1.heap.size ≠ U2.heap.size; omega) _).setOther (p := ⟨U1.heap.size, 4, none⟩) (by show U1.heap.size ≠ U2.heap.size; omega) _).setOther (p := ⟨U1.heap.size, 5, none⟩) (by show U1.heap.size ≠ U2.heap.size; omega) _)
            have KX4 : Hid (Blk U4 U1.heap.size 28 (feedC p (m : Int) hd ht (some ⟨U0.heap.size, 0, none⟩) m m (some ⟨U2.heap.size, 0, none⟩) m m)) := by rw [← HU4.out]; exact blk_six KX3.out _ _ _ _ _ _
            have HB4 : Hid (Below w.heap.size w U4) := by rw [← HU4.out]; exact below_six HB3.out (by omega) _ _ _ _ _ _
            go_simp
            rw [HU4.out]
            refine hK.out _ _ (⟨feed_cells KF4.out, KH4.out.cell 0, KH4.out.cell 1, KH4.out.cell 2⟩) (fun hHeld => ?_)
            clear hK K
            (try simp only [Act.put])
            refine wpAnyH_done (by kernel_rfl) ?_ _
            (try go_wp2_with fail)
            go_meet
            exact ⟨_, _, _, rfl, by omega, by omega, by omega, by omega, by omega, by omega, KX4, KS4, KB4, KZ4, KF4, HB4⟩
    case zo8_1 =>
      go_simp
      refine hK.out _ _ (⟨feed_cells (KF0.out.alloc _), (KH0.out.alloc _).cell 0, (KH0.out.alloc _).cell 1, (KH0.out.alloc _).cell 2⟩) (fun hHeld => ?_)
      clear hK K
      (try simp only [Act.put, List.setIfInBounds_toArray, List.set_cons_zero, List.set_cons_succ])
      obtain ⟨U1, HU1⟩ : ∃ U, Hid (U0.alloc (.cells (bals (noB m)).toArray 4) = U) := ⟨_, rfl⟩
      have hb1 : Below U0.heap.size U0 U1 := by rw [← HU1.out]; exact (Below.refl _ _).alloc (Nat.le_refl _) _
      have KF1 := Lib.hid (KF0.out.below hb1 KF0.out.lt)
      have KH1 := Lib.hid (KH0.out.below hb1 KH0.out.lt)
      have KZ1 := Lib.hid (KZ0.out.below hb1 KZ0.out.lt)
      have HB1 : Hid (Below w.heap.size w U1) := HB0.out.trans (hb1.mono HB0.out.size)
      have KB1 : Hid (Blk U1 U0.heap.size 4 (bals (noB m)).toArray) := by rw [← HU1.out]; exact Blk.new U0 _ _
      have hz1 : U0.heap.size < U1.heap.size := KB1.out.lt
      rw [HU1.out] at hHeld ⊢
      refine wpAnyH_ready (rs := [5, 10]) (by kernel_rfl) (by simp) (AllReadyH.cons rfl (fun K hK => ?zo16_0) (AllReadyH.cons rfl (fun K hK => ?zo16_1) AllReadyH.nil))
      case zo16_0 =>
        go_simp
        refine hK.out _ _ (⟨feed_cells (KF1.out.alloc _), (KH1.out.alloc _).cell 0, (KH1.out.alloc _).cell 1, (KH1.out.alloc _).cell 2⟩) (fun hHeld => ?_)
        clear hK K
        (try simp only [Act.put, List.setIfInBounds_toArray, List.set_cons_zero, List.set_cons_succ])
        obtain ⟨U2, HU2⟩ : ∃ U, Hid (U1.alloc (.cells (sals (noS m)).toArray 9) = U) := ⟨_, rfl⟩
        have hb2 : Below U1.heap.size U1 U2 := by rw [← HU2.out]; exact (Below.refl _ _).alloc (Nat.le_refl _) _
        have KF2 := Lib.hid (KF1.out.below hb2 KF1.out.lt)
        have KH2 := Lib.hid (KH1.out.below hb2 KH1.out.lt)
        have KZ2 := Lib.hid (KZ1.out.below hb2 KZ1.out.lt)
        have HB2 : Hid (Below w.heap.size w U2) := HB1.out.trans (hb2.mono HB1.out.size)
        have KB2 := Lib.hid (KB1.out.below hb2 KB1.out.lt)
        have KS2 : Hid (Blk U2 U1.heap.size 9 (sals (noS m)).toArray) := by rw [← HU2.out]; exact Blk.new U1 _ _
        have hz2 : U1.heap.size < U2.heap.size := KS2.out.lt
        rw [HU2.out] at hHeld ⊢
        refine wpAnyH_take (i := 9) (v := ?zv17) rfl (by kernel_rfl) (by kernel_rfl) (by kernel_rfl) (fun _ _ _ h => h) (Or.inl ⟨by kernel_rfl, ?zy17⟩) (by assumption) ?zr17
        case zy17 => (intro w hSw; (try dsimp only at hSw); go_simp; try with_reducible rfl)
        change wpAnyH _ _ _ _ _ _ _ (Act.put _ (some 15) _) _
        simp only [Act.put, List.setIfInBounds_toArray, List.set_cons_zero, List.set_cons_succ]
        refine wpAnyH_ready (rs := [10]) (by kernel_rfl) (by simp) (AllReadyH.cons rfl (fun K hK => ?zo18_0) AllReadyH.nil)
        case zo18_0 =>
          go_simp
          refine hK.out _ _ (⟨feed_cells (KF2.out.alloc _), (KH2.out.alloc _).cell 0, (KH2.out.alloc _).cell 1, (KH2.out.alloc _).cell 2⟩) (fun hHeld => ?_)
          clear hK K
          (try simp only [Act.put, List.setIfInBounds_toArray, List.set_cons_zero, List.set_cons_succ])
          obtain ⟨U3, HU3⟩ : ∃ U, Hid (U2.alloc (.cells (feedC 0 0 0 0 none 0 0 none 0 0) 28) = U) := ⟨_, rfl⟩
          have hb3 : Below U2.heap.size U2 U3 := by rw [← HU3.out]; exact (Below.refl _ _).alloc (Nat.le_refl _) _
          have KF3 := Lib.hid (KF2.out.below hb3 KF2.out.lt)
          have KH3 := Lib.hid (KH2.out.below hb3 KH2.out.lt)
          have KZ3 := Lib.hid (KZ2.out.below hb3 KZ2.out.lt)
          have HB3 : Hid (Below w.heap.size w U3) := HB2.out.trans (hb3.mono HB2.out.size)
          have KB3 := Lib.hid (KB2.out.below hb3 KB2.out.lt)
          have KS3 := Lib.hid (KS2.out.below hb3 KS2.out.lt)
          have KX3 : Hid (Blk U3 U2.heap.size 28 (feedC 0 0 0 0 none 0 0 none 0 0)) := by rw [← HU3.out]; exact Blk.new U2 _ _
          have hz3 : U2.heap.size < U3.heap.size := KX3.out.lt
          rw [HU3.out] at hHeld ⊢
          refine wpAnyH_ready (rs := [11]) (by kernel_rfl) (by simp) (AllReadyH.cons rfl (fun K hK => ?zo19_0) AllReadyH.nil)
          case zo19_0 =>
            go_simp
            obtain ⟨n0, n1, n2, n3, n4, n5⟩ := feed_cells KX3.out
            have nf := blk_frozen KX3.out
            obtain ⟨U4, HU4⟩ : ∃ U, Hid (((((((U3.setCell ⟨U2.heap.size, 0, none⟩ (.int .i64 p)).setCell ⟨U2.heap.size, 1, none⟩ (.int .i64 (m : Int))).setCell ⟨U2.heap.size, 2, none⟩ (.int .i64 hd)).setCell ⟨U2.heap.size, 3, none⟩ (.int .i64 ht)).setCell ⟨U2.heap.size, 4, none⟩ (.slice (some ⟨U1.heap.size, 0, none⟩) m m)).setCell ⟨U2.heap.size, 5, none⟩ (.slice (some ⟨U0.heap.size, 0, none⟩) m m)) = U) := ⟨_, rfl⟩
            have KF4 : Hid (Blk U4 (w.heap.size) 28 (feedC p l d s A1 nb c1 A2 nh c2)) := by rw [← HU4.out]; exact ((((((KF3.out.setOther (p := ⟨U2.heap.size, 0, none⟩) (by show U2.heap.size ≠ w.heap.size; omega) _).setOther (p := ⟨U2.heap.size, 1, none⟩) (by show U2.heap.size ≠ w.heap.size; omega) _).setOther (p := ⟨U2.heap.size, 2, none⟩) (by show U2.heap.size ≠ w.heap.size; omega) _).setOther (p := ⟨U2.heap.size, 3, none⟩) (by show U2.heap.size ≠ w.heap.size; omega) _).setOther (p := ⟨U2.heap.size, 4, none⟩) (by show U2.heap.size ≠ w.heap.size; omega) _).setOther (p := ⟨U2.heap.size, 5, none⟩) (by show U2.heap.size ≠ w.heap.size; omega) _)
            have KH4 : Hid (Blk U4 (w.heap.size + 1) 24 #[.int .i64 (m : Int), .int .i64 hd, .int .i64 ht]) := by rw [← HU4.out]; exact ((((((KH3.out.setOther (p := ⟨U2.heap.size, 0, none⟩) (by show U2.heap.size ≠ w.heap.size + 1; omega) _).setOther (p := ⟨U2.heap.size, 1, none⟩) (by show U2.heap.size ≠ w.heap.size + 1; omega) _).setOther (p := ⟨U2.heap.size, 2, none⟩) (by show U2.heap.size ≠ w.heap.size + 1; omega) _).setOther (p := ⟨U2.heap.size, 3, none⟩) (by show U2.heap.size ≠ w.heap.size + 1; omega) _).setOther (p := ⟨U2.heap.size, 4, none⟩) (by show U2.heap.size ≠ w.heap.size + 1; omega) _).setOther (p := ⟨U2.heap.size, 5, none⟩) (by show U2.heap.size ≠ w.heap.size + 1; omega) _)
            have KZ4 : Hid (Blk U4 (w.heap.size + 1 + 1) 28 (feedC 0 0 0 0 none 0 0 none 0 0)) := by rw [← HU4.out]; exact ((((((KZ3.out.setOther (p := ⟨U2.heap.size, 0, none⟩) (by show U2.heap.size ≠ w.heap.size + 1 + 1; omega) _).setOther (p := ⟨U2.heap.size, 1, none⟩) (by show U2.heap.size ≠ w.heap.size + 1 + 1; omega) _).setOther (p := ⟨U2.heap.size, 2, none⟩) (by show U2.heap.size ≠ w.heap.size + 1 + 1; omega) _).setOther (p := ⟨U2.heap.size, 3, none⟩) (by show U2.heap.size ≠ w.heap.size + 1 + 1; omega) _).setOther (p := ⟨U2.heap.size, 4, none⟩) (by show U2.heap.size ≠ w.heap.size + 1 + 1; omega) _).setOther (p := ⟨U2.heap.size, 5, none⟩) (by show U2.heap.size ≠ w.heap.size + 1 + 1; omega) _)
            have KS4 : Hid (Blk U4 (U1.heap.size) 9 (sals (noS m)).toArray) := by rw [← HU4.out]; exact ((((((KS3.out.setOther (p := ⟨U2.heap.size, 0, none⟩) (by show U2.heap.size ≠ U1.heap.size; omega) _).setOther (p := ⟨U2.heap.size, 1, none⟩) (by show U2.heap.size ≠ U1.heap.size; omega) _).setOther (p := ⟨U2.heap.size, 2, none⟩) (by show U2.heap.size ≠ U1.heap.size; omega) _).setOther (p := ⟨U2.heap.size, 3, none⟩) (by show U2.heap.size ≠ U1.heap.size; omega) _).setOther (p := ⟨U2.heap.size, 4, none⟩) (by show U2.heap.size ≠ U1.heap.size; omega) _).setOther (p := ⟨U2.heap.size, 5, none⟩) (by show U2.heap.size ≠ U1.heap.size; omega) _)
            have KB4 : Hid (Blk U4 (U0.heap.size) 4 (bals (noB m)).toArray) := by rw [← HU4.out]; exact ((((((KB3.out.setOther (p := ⟨U2.heap.size, 0, none⟩) (by show U2.heap.size ≠ U0.heap.size; omega) _).setOther (p := ⟨U2.heap.size, 1, none⟩) (by show U2.heap.size ≠ U0.heap.size; omega) _).setOther (p := ⟨U2.heap.size, 2, none⟩) (by show U2.heap.size ≠ U0.heap.size; omega) _).setOther (p := ⟨U2.heap.size, 3, none⟩) (by show U2.heap.size ≠ U0.heap.size; omega) _).setOther (p := ⟨U2.heap.size, 4, none⟩) (by show U2.heap.size ≠ U0.heap.size; omega) _).setOther (p := ⟨U2.heap.size, 5, none⟩) (by show U2.heap.size ≠ U0.heap.size; omega) _)
            have KX4 : Hid (Blk U4 U2.heap.size 28 (feedC p (m : Int) hd ht (some ⟨U1.heap.size, 0, none⟩) m m (some ⟨U0.heap.size, 0, none⟩) m m)) := by rw [← HU4.out]; exact blk_six KX3.out _ _ _ _ _ _
            have HB4 : Hid (Below w.heap.size w U4) := by rw [← HU4.out]; exact below_six HB3.out (by omega) _ _ _ _ _ _
            go_simp
            rw [HU4.out]
            refine hK.out _ _ (⟨feed_cells KF4.out, KH4.out.cell 0, KH4.out.cell 1, KH4.out.cell 2⟩) (fun hHeld => ?_)
            clear hK K
            (try simp only [Act.put])
            refine wpAnyH_done (by kernel_rfl) ?_ _
            (try go_wp2_with fail)
            go_meet
            exact ⟨_, _, _, rfl, by omega, by omega, by omega, by omega, by omega, by omega, KX4, KS4, KB4, KZ4, KF4, HB4⟩
      case zo16_1 =>
        go_simp
        refine hK.out _ _ (⟨feed_cells (KF1.out.alloc _), (KH1.out.alloc _).cell 0, (KH1.out.alloc _).cell 1, (KH1.out.alloc _).cell 2⟩) (fun hHeld => ?_)
        clear hK K
        (try simp only [Act.put, List.setIfInBounds_toArray, List.set_cons_zero, List.set_cons_succ])
        obtain ⟨U2, HU2⟩ : ∃ U, Hid (U1.alloc (.cells (feedC 0 0 0 0 none 0 0 none 0 0) 28) = U) := ⟨_, rfl⟩
        have hb2 : Below U1.heap.size U1 U2 := by rw [← HU2.out]; exact (Below.refl _ _).alloc (Nat.le_refl _) _
        have KF2 := Lib.hid (KF1.out.below hb2 KF1.out.lt)
        have KH2 := Lib.hid (KH1.out.below hb2 KH1.out.lt)
        have KZ2 := Lib.hid (KZ1.out.below hb2 KZ1.out.lt)
        have HB2 : Hid (Below w.heap.size w U2) := HB1.out.trans (hb2.mono HB1.out.size)
        have KB2 := Lib.hid (KB1.out.below hb2 KB1.out.lt)
        have KX2 : Hid (Blk U2 U1.heap.size 28 (feedC 0 0 0 0 none 0 0 none 0 0)) := by rw [← HU2.out]; exact Blk.new U1 _ _
        have hz2 : U1.heap.size < U2.heap.size := KX2.out.lt
        rw [HU2.out] at hHeld ⊢
        refine wpAnyH_ready (rs := [5]) (by kernel_rfl) (by simp) (AllReadyH.cons rfl (fun K hK => ?zo20_0) AllReadyH.nil)
        case zo20_0 =>
          go_simp
          refine hK.out _ _ (⟨feed_cells (KF2.out.alloc _), (KH2.out.alloc _).cell 0, (KH2.out.alloc _).cell 1, (KH2.out.alloc _).cell 2⟩) (fun hHeld => ?_)
          clear hK K
          (try simp only [Act.put, List.setIfInBounds_toArray, List.set_cons_zero, List.set_cons_succ])
          obtain ⟨U3, HU3⟩ : ∃ U, Hid (U2.alloc (.cells (sals (noS m)).toArray 9) = U) := ⟨_, rfl⟩
          have hb3 : Below U2.heap.size U2 U3 := by rw [← HU3.out]; exact (Below.refl _ _).alloc (Nat.le_refl _) _
          have KF3 := Lib.hid (KF2.out.below hb3 KF2.out.lt)
          have KH3 := Lib.hid (KH2.out.below hb3 KH2.out.lt)
          have KZ3 := Lib.hid (KZ2.out.below hb3 KZ2.out.lt)
          have HB3 : Hid (Below w.heap.size w U3) := HB2.out.trans (hb3.mono HB2.out.size)
          have KB3 := Lib.hid (KB2.out.below hb3 KB2.out.lt)
          have KX3 := Lib.hid (KX2.out.below hb3 KX2.out.lt)
          have KS3 : Hid (Blk U3 U2.heap.size 9 (sals (noS m)).toArray) := by rw [← HU3.out]; exact Blk.new U2 _ _
          have hz3 : U2.heap.size < U3.heap.size := KS3.out.lt
          rw [HU3.out] at hHeld ⊢
          refine wpAnyH_take (i := 9) (v := ?zv21) rfl (by kernel_rfl) (by kernel_rfl) (by kernel_rfl) (fun _ _ _ h => h) (Or.inl ⟨by kernel_rfl, ?zy21⟩) (by assumption) ?zr21
          case zy21 => (intro w hSw; (try dsimp only at hSw); go_simp; try with_reducible rfl)
          change wpAnyH _ _ _ _ _ _ _ (Act.put _ (some 15) _) _
          simp only [Act.put, List.setIfInBounds_toArray, List.set_cons_zero, List.set_cons_succ]
          refine wpAnyH_ready (rs := [11]) (by kernel_rfl) (by simp) (AllReadyH.cons rfl (fun K hK => ?zo22_0) AllReadyH.nil)
          case zo22_0 =>
            go_simp
            obtain ⟨n0, n1, n2, n3, n4, n5⟩ := feed_cells KX3.out
            have nf := blk_frozen KX3.out
            obtain ⟨U4, HU4⟩ : ∃ U, Hid (((((((U3.setCell ⟨U1.heap.size, 0, none⟩ (.int .i64 p)).setCell ⟨U1.heap.size, 1, none⟩ (.int .i64 (m : Int))).setCell ⟨U1.heap.size, 2, none⟩ (.int .i64 hd)).setCell ⟨U1.heap.size, 3, none⟩ (.int .i64 ht)).setCell ⟨U1.heap.size, 4, none⟩ (.slice (some ⟨U2.heap.size, 0, none⟩) m m)).setCell ⟨U1.heap.size, 5, none⟩ (.slice (some ⟨U0.heap.size, 0, none⟩) m m)) = U) := ⟨_, rfl⟩
            have KF4 : Hid (Blk U4 (w.heap.size) 28 (feedC p l d s A1 nb c1 A2 nh c2)) := by rw [← HU4.out]; exact ((((((KF3.out.setOther (p := ⟨U1.heap.size, 0, none⟩) (by show U1.heap.size ≠ w.heap.size; omega) _).setOther (p := ⟨U1.heap.size, 1, none⟩) (by show U1.heap.size ≠ w.heap.size; omega) _).setOther (p := ⟨U1.heap.size, 2, none⟩) (by show U1.heap.size ≠ w.heap.size; omega) _).setOther (p := ⟨U1.heap.size, 3, none⟩) (by show U1.heap.size ≠ w.heap.size; omega) _).setOther (p := ⟨U1.heap.size, 4, none⟩) (by show U1.heap.size ≠ w.heap.size; omega) _).setOther (p := ⟨U1.heap.size, 5, none⟩) (by show U1.heap.size ≠ w.heap.size; omega) _)
            have KH4 : Hid (Blk U4 (w.heap.size + 1) 24 #[.int .i64 (m : Int), .int .i64 hd, .int .i64 ht]) := by rw [← HU4.out]; exact ((((((KH3.out.setOther (p := ⟨U1.heap.size, 0, none⟩) (by show U1.heap.size ≠ w.heap.size + 1; omega) _).setOther (p := ⟨U1.heap.size, 1, none⟩) (by show U1.heap.size ≠ w.heap.size + 1; omega) _).setOther (p := ⟨U1.heap.size, 2, none⟩) (by show U1.heap.size ≠ w.heap.size + 1; omega) _).setOther (p := ⟨U1.heap.size, 3, none⟩) (by show U1.heap.size ≠ w.heap.size + 1; omega) _).setOther (p := ⟨U1.heap.size, 4, none⟩) (by show U1.heap.size ≠ w.heap.size + 1; omega) _).setOther (p := ⟨U1.heap.size, 5, none⟩) (by show U1.heap.size ≠ w.heap.size + 1; omega) _)
            have KZ4 : Hid (Blk U4 (w.heap.size + 1 + 1) 28 (feedC 0 0 0 0 none 0 0 none 0 0)) := by rw [← HU4.out]; exact ((((((KZ3.out.setOther (p := ⟨U1.heap.size, 0, none⟩) (by show U1.heap.size ≠ w.heap.size + 1 + 1; omega) _).setOther (p := ⟨U1.heap.size, 1, none⟩) (by show U1.heap.size ≠ w.heap.size + 1 + 1; omega) _).setOther (p := ⟨U1.heap.size, 2, none⟩) (by show U1.heap.size ≠ w.heap.size + 1 + 1; omega) _).setOther (p := ⟨U1.heap.size, 3, none⟩) (by show U1.heap.size ≠ w.heap.size + 1 + 1; omega) _).setOther (p := ⟨U1.heap.size, 4, none⟩) (by show U1.heap.size ≠ w.heap.size + 1 + 1; omega) _).setOther (p := ⟨U1.heap.size, 5, none⟩) (by show U1.heap.size ≠ w.heap.size + 1 + 1; omega) _)
            have KS4 : Hid (Blk U4 (U2.heap.size) 9 (sals (noS m)).toArray) := by rw [← HU4.out]; exact ((((((KS3.out.setOther (p := ⟨U1.heap.size, 0, none⟩) (by show U1.heap.size ≠ U2.heap.size; omega) _).setOther (p := ⟨U1.heap.size, 1, none⟩) (by show U1.heap.size ≠ U2.heap.size; omega) _).setOther (p := ⟨U1.heap.size, 2, none⟩) (by show U1.heap.size ≠ U2.heap.size; omega) _).setOther (p := ⟨U1.heap.size, 3, none⟩) (by show U1.heap.size ≠ U2.heap.size; omega) _).setOther (p := ⟨U1.heap.size, 4, none⟩) (by show U1.heap.size ≠ U2.heap.size; omega) _).setOther (p := ⟨U1.heap.size, 5, none⟩) (by show U1.heap.size ≠ U2.heap.size; omega) _)
            have KB4 : Hid (Blk U4 (U0.heap.size) 4 (bals (noB m)).toArray) := by rw [← HU4.out]; exact ((((((KB3.out.setOther (p := ⟨U1.heap.size, 0, none⟩) (by show U1.heap.size ≠ U0.heap.size; omega) _).setOther (p := ⟨U1.heap.size, 1, none⟩) (by show U1.heap.size ≠ U0.heap.size; omega) _).setOther (p := ⟨U1.heap.size, 2, none⟩) (by show U1.heap.size ≠ U0.heap.size; omega) _).setOther (p := ⟨U1.heap.size, 3, none⟩) (by show U1.heap.size ≠ U0.heap.size; omega) _).setOther (p := ⟨U1.heap.size, 4, none⟩) (by show U1.heap.size ≠ U0.heap.size; omega) _).setOther (p := ⟨U1.heap.size, 5, none⟩) (by show U1.heap.size ≠ U0.heap.size; omega) _)
            have KX4 : Hid (Blk U4 U1.heap.size 28 (feedC p (m : Int) hd ht (some ⟨U2.heap.size, 0, none⟩) m m (some ⟨U0.heap.size, 0, none⟩) m m)) := by rw [← HU4.out]; exact blk_six KX3.out _ _ _ _ _ _
            have HB4 : Hid (Below w.heap.size w U4) := by rw [← HU4.out]; exact below_six HB3.out (by omega) _ _ _ _ _ _
            go_simp
            rw [HU4.out]
            refine hK.out _ _ (⟨feed_cells KF4.out, KH4.out.cell 0, KH4.out.cell 1, KH4.out.cell 2⟩) (fun hHeld => ?_)
            clear hK K
            (try simp only [Act.put])
            refine wpAnyH_done (by kernel_rfl) ?_ _
            (try go_wp2_with fail)
            go_meet
            exact ⟨_, _, _, rfl, by omega, by omega, by omega, by omega, by omega, by omega, KX4, KS4, KB4, KZ4, KF4, HB4⟩
    case zo8_2 =>
      go_simp
      refine hK.out _ _ (⟨feed_cells (KF0.out.alloc _), (KH0.out.alloc _).cell 0, (KH0.out.alloc _).cell 1, (KH0.out.alloc _).cell 2⟩) (fun hHeld => ?_)
      clear hK K
      (try simp only [Act.put, List.setIfInBounds_toArray, List.set_cons_zero, List.set_cons_succ])
      obtain ⟨U1, HU1⟩ : ∃ U, Hid (U0.alloc (.cells (feedC 0 0 0 0 none 0 0 none 0 0) 28) = U) := ⟨_, rfl⟩
      have hb1 : Below U0.heap.size U0 U1 := by rw [← HU1.out]; exact (Below.refl _ _).alloc (Nat.le_refl _) _
      have KF1 := Lib.hid (KF0.out.below hb1 KF0.out.lt)
      have KH1 := Lib.hid (KH0.out.below hb1 KH0.out.lt)
      have KZ1 := Lib.hid (KZ0.out.below hb1 KZ0.out.lt)
      have HB1 : Hid (Below w.heap.size w U1) := HB0.out.trans (hb1.mono HB0.out.size)
      have KX1 : Hid (Blk U1 U0.heap.size 28 (feedC 0 0 0 0 none 0 0 none 0 0)) := by rw [← HU1.out]; exact Blk.new U0 _ _
      have hz1 : U0.heap.size < U1.heap.size := KX1.out.lt
      rw [HU1.out] at hHeld ⊢
      refine wpAnyH_ready (rs := [5, 8]) (by kernel_rfl) (by simp) (AllReadyH.cons rfl (fun K hK => ?zo23_0) (AllReadyH.cons rfl (fun K hK => ?zo23_1) AllReadyH.nil))
      case zo23_0 =>
        go_simp
        refine hK.out _ _ (⟨feed_cells (KF1.out.alloc _), (KH1.out.alloc _).cell 0, (KH1.out.alloc _).cell 1, (KH1.out.alloc _).cell 2⟩) (fun hHeld => ?_)
        clear hK K
        (try simp only [Act.put, List.setIfInBounds_toArray, List.set_cons_zero, List.set_cons_succ])
        obtain ⟨U2, HU2⟩ : ∃ U, Hid (U1.alloc (.cells (sals (noS m)).toArray 9) = U) := ⟨_, rfl⟩
        have hb2 : Below U1.heap.size U1 U2 := by rw [← HU2.out]; exact (Below.refl _ _).alloc (Nat.le_refl _) _
        have KF2 := Lib.hid (KF1.out.below hb2 KF1.out.lt)
        have KH2 := Lib.hid (KH1.out.below hb2 KH1.out.lt)
        have KZ2 := Lib.hid (KZ1.out.below hb2 KZ1.out.lt)
        have HB2 : Hid (Below w.heap.size w U2) := HB1.out.trans (hb2.mono HB1.out.size)
        have KX2 := Lib.hid (KX1.out.below hb2 KX1.out.lt)
        have KS2 : Hid (Blk U2 U1.heap.size 9 (sals (noS m)).toArray) := by rw [← HU2.out]; exact Blk.new U1 _ _
        have hz2 : U1.heap.size < U2.heap.size := KS2.out.lt
        rw [HU2.out] at hHeld ⊢
        refine wpAnyH_ready (rs := [8]) (by kernel_rfl) (by simp) (AllReadyH.cons rfl (fun K hK => ?zo24_0) AllReadyH.nil)
        case zo24_0 =>
          go_simp
          refine hK.out _ _ (⟨feed_cells (KF2.out.alloc _), (KH2.out.alloc _).cell 0, (KH2.out.alloc _).cell 1, (KH2.out.alloc _).cell 2⟩) (fun hHeld => ?_)
          clear hK K
          (try simp only [Act.put, List.setIfInBounds_toArray, List.set_cons_zero, List.set_cons_succ])
          obtain ⟨U3, HU3⟩ : ∃ U, Hid (U2.alloc (.cells (bals (noB m)).toArray 4) = U) := ⟨_, rfl⟩
          have hb3 : Below U2.heap.size U2 U3 := by rw [← HU3.out]; exact (Below.refl _ _).alloc (Nat.le_refl _) _
          have KF3 := Lib.hid (KF2.out.below hb3 KF2.out.lt)
          have KH3 := Lib.hid (KH2.out.below hb3 KH2.out.lt)
          have KZ3 := Lib.hid (KZ2.out.below hb3 KZ2.out.lt)
          have HB3 : Hid (Below w.heap.size w U3) := HB2.out.trans (hb3.mono HB2.out.size)
          have KX3 := Lib.hid (KX2.out.below hb3 KX2.out.lt)
          have KS3 := Lib.hid (KS2.out.below hb3 KS2.out.lt)
          have KB3 : Hid (Blk U3 U2.heap.size 4 (bals (noB m)).toArray) := by rw [← HU3.out]; exact Blk.new U2 _ _
          have hz3 : U2.heap.size < U3.heap.size := KB3.out.lt
          rw [HU3.out] at hHeld ⊢
          refine wpAnyH_take (i := 9) (v := ?zv25) rfl (by kernel_rfl) (by kernel_rfl) (by kernel_rfl) (fun _ _ _ h => h) (Or.inl ⟨by kernel_rfl, ?zy25⟩) (by assumption) ?zr25
          case zy25 => (intro w hSw; (try dsimp only at hSw); go_simp; try with_reducible rfl)
          change wpAnyH _ _ _ _ _ _ _ (Act.put _ (some 15) _) _
          simp only [Act.put, List.setIfInBounds_toArray, List.set_cons_zero, List.set_cons_succ]
          refine wpAnyH_ready (rs := [11]) (by kernel_rfl) (by simp) (AllReadyH.cons rfl (fun K hK => ?zo26_0) AllReadyH.nil)
          case zo26_0 =>
            go_simp
            obtain ⟨n0, n1, n2, n3, n4, n5⟩ := feed_cells KX3.out
            have nf := blk_frozen KX3.out
            obtain ⟨U4, HU4⟩ : ∃ U, Hid (((((((U3.setCell ⟨U0.heap.size, 0, none⟩ (.int .i64 p)).setCell ⟨U0.heap.size, 1, none⟩ (.int .i64 (m : Int))).setCell ⟨U0.heap.size, 2, none⟩ (.int .i64 hd)).setCell ⟨U0.heap.size, 3, none⟩ (.int .i64 ht)).setCell ⟨U0.heap.size, 4, none⟩ (.slice (some ⟨U1.heap.size, 0, none⟩) m m)).setCell ⟨U0.heap.size, 5, none⟩ (.slice (some ⟨U2.heap.size, 0, none⟩) m m)) = U) := ⟨_, rfl⟩
            have KF4 : Hid (Blk U4 (w.heap.size) 28 (feedC p l d s A1 nb c1 A2 nh c2)) := by rw [← HU4.out]; exact ((((((KF3.out.setOther (p := ⟨U0.heap.size, 0, none⟩) (by show U0.heap.size ≠ w.heap.size; omega) _).setOther (p := ⟨U0.heap.size, 1, none⟩) (by show U0.heap.size ≠ w.heap.size; omega) _).setOther (p := ⟨U0.heap.size, 2, none⟩) (by show U0.heap.size ≠ w.heap.size; omega) _).setOther (p := ⟨U0.heap.size, 3, none⟩) (by show U0.heap.size ≠ w.heap.size; omega) _).setOther (p := ⟨U0.heap.size, 4, none⟩) (by show U0.heap.size ≠ w.heap.size; omega) _).setOther (p := ⟨U0.heap.size, 5, none⟩) (by show U0.heap.size ≠ w.heap.size; omega) _)
            have KH4 : Hid (Blk U4 (w.heap.size + 1) 24 #[.int .i64 (m : Int), .int .i64 hd, .int .i64 ht]) := by rw [← HU4.out]; exact ((((((KH3.out.setOther (p := ⟨U0.heap.size, 0, none⟩) (by show U0.heap.size ≠ w.heap.size + 1; omega) _).setOther (p := ⟨U0.heap.size, 1, none⟩) (by show U0.heap.size ≠ w.heap.size + 1; omega) _).setOther (p := ⟨U0.heap.size, 2, none⟩) (by show U0.heap.size ≠ w.heap.size + 1; omega) _).setOther (p := ⟨U0.heap.size, 3, none⟩) (by show U0.heap.size ≠ w.heap.size + 1; omega) _).setOther (p := ⟨U0.heap.size, 4, none⟩) (by show U0.heap.size ≠ w.heap.size + 1; omega) _).setOther (p := ⟨U0.heap.size, 5, none⟩) (by show U0.heap.size ≠ w.heap.size + 1; omega) _)
            have KZ4 : Hid (Blk U4 (w.heap.size + 1 + 1) 28 (feedC 0 0 0 0 none 0 0 none 0 0)) := by rw [← HU4.out]; exact ((((((KZ3.out.setOther (p := ⟨U0.heap.size, 0, none⟩) (by show U0.heap.size ≠ w.heap.size + 1 + 1; omega) _).setOther (p := ⟨U0.heap.size, 1, none⟩) (by show U0.heap.size ≠ w.heap.size + 1 + 1; omega) _).setOther (p := ⟨U0.heap.size, 2, none⟩) (by show U0.heap.size ≠ w.heap.size + 1 + 1; omega) _).setOther (p := ⟨U0.heap.size, 3, none⟩) (by show U0.heap.size ≠ w.heap.size + 1 + 1; omega) _).setOther (p := ⟨U0.heap.size, 4, none⟩) (by show U0.heap.size ≠ w.heap.size + 1 + 1; omega) _).setOther (p := ⟨U0.heap.size, 5, none⟩) (by show U0.heap.size ≠ w.heap.size + 1 + 1; omega) _)
            have KS4 : Hid (Blk U4 (U1.heap.size) 9 (sals (noS m)).toArray) := by rw [← HU4.out]; exact ((((((KS3.out.setOther (p := ⟨U0.heap.size, 0, none⟩) (by show U0.heap.size ≠ U1.heap.size; omega) _).setOther (p := ⟨U0.heap.size, 1, none⟩) (by show U0.heap.size ≠ U1.heap.size; omega) _).setOther (p := ⟨U0.heap.size, 2, none⟩) (by show U0.heap.size ≠ U1.heap.size; omega) _).setOther (p := ⟨U0.heap.size, 3, none⟩) (by show U0.heap.size ≠ U1.heap.size; omega) _).setOther (p := ⟨U0.heap.size, 4, none⟩) (by show U0.heap.size ≠ U1.heap.size; omega) _).setOther (p := ⟨U0.heap.size, 5, none⟩) (by show U0.heap.size ≠ U1.heap.size; omega) _)
            have KB4 : Hid (Blk U4 (U2.heap.size) 4 (bals (noB m)).toArray) := by rw [← HU4.out]; exact ((((((KB3.out.setOther (p := ⟨U0.heap.size, 0, none⟩) (by show U0.heap.size ≠ U2.heap.size; omega) _).setOther (p := ⟨U0.heap.size, 1, none⟩) (by show U0.heap.size ≠ U2.heap.size; omega) _).setOther (p := ⟨U0.heap.size, 2, none⟩) (by show U0.heap.size ≠ U2.heap.size; omega) _).setOther (p := ⟨U0.heap.size, 3, none⟩) (by show U0.heap.size ≠ U2.heap.size; omega) _).setOther (p := ⟨U0.heap.size, 4, none⟩) (by show U0.heap.size ≠ U2.heap.size; omega) _).setOther (p := ⟨U0.heap.size, 5, none⟩) (by show U0.heap.size ≠ U2.heap.size; omega) _)
            have KX4 : Hid (Blk U4 U0.heap.size 28 (feedC p (m : Int) hd ht (some ⟨U1.heap.size, 0, none⟩) m m (some ⟨U2.heap.size, 0, none⟩) m m)) := by rw [← HU4.out]; exact blk_six KX3.out _ _ _ _ _ _
            have HB4 : Hid (Below w.heap.size w U4) := by rw [← HU4.out]; exact below_six HB3.out (by omega) _ _ _ _ _ _
            go_simp
            rw [HU4.out]
            refine hK.out _ _ (⟨feed_cells KF4.out, KH4.out.cell 0, KH4.out.cell 1, KH4.out.cell 2⟩) (fun hHeld => ?_)
            clear hK K
            (try simp only [Act.put])
            refine wpAnyH_done (by kernel_rfl) ?_ _
            (try go_wp2_with fail)
            go_meet
            exact ⟨_, _, _, rfl, by omega, by omega, by omega, by omega, by omega, by omega, KX4, KS4, KB4, KZ4, KF4, HB4⟩
      case zo23_1 =>
        go_simp
        refine hK.out _ _ (⟨feed_cells (KF1.out.alloc _), (KH1.out.alloc _).cell 0, (KH1.out.alloc _).cell 1, (KH1.out.alloc _).cell 2⟩) (fun hHeld => ?_)
        clear hK K
        (try simp only [Act.put, List.setIfInBounds_toArray, List.set_cons_zero, List.set_cons_succ])
        obtain ⟨U2, HU2⟩ : ∃ U, Hid (U1.alloc (.cells (bals (noB m)).toArray 4) = U) := ⟨_, rfl⟩
        have hb2 : Below U1.heap.size U1 U2 := by rw [← HU2.out]; exact (Below.refl _ _).alloc (Nat.le_refl _) _
        have KF2 := Lib.hid (KF1.out.below hb2 KF1.out.lt)
        have KH2 := Lib.hid (KH1.out.below hb2 KH1.out.lt)
        have KZ2 := Lib.hid (KZ1.out.below hb2 KZ1.out.lt)
        have HB2 : Hid (Below w.heap.size w U2) := HB1.out.trans (hb2.mono HB1.out.size)
        have KX2 := Lib.hid (KX1.out.below hb2 KX1.out.lt)
        have KB2 : Hid (Blk U2 U1.heap.size 4 (bals (noB m)).toArray) := by rw [← HU2.out]; exact Blk.new U1 _ _
        have hz2 : U1.heap.size < U2.heap.size := KB2.out.lt
        rw [HU2.out] at hHeld ⊢
        refine wpAnyH_ready (rs := [5]) (by kernel_rfl) (by simp) (AllReadyH.cons rfl (fun K hK => ?zo27_0) AllReadyH.nil)
        case zo27_0 =>
          go_simp
          refine hK.out _ _ (⟨feed_cells (KF2.out.alloc _), (KH2.out.alloc _).cell 0, (KH2.out.alloc _).cell 1, (KH2.out.alloc _).cell 2⟩) (fun hHeld => ?_)
          clear hK K
          (try simp only [Act.put, List.setIfInBounds_toArray, List.set_cons_zero, List.set_cons_succ])
          obtain ⟨U3, HU3⟩ : ∃ U, Hid (U2.alloc (.cells (sals (noS m)).toArray 9) = U) := ⟨_, rfl⟩
          have hb3 : Below U2.heap.size U2 U3 := by rw [← HU3.out]; exact (Below.refl _ _).alloc (Nat.le_refl _) _
          have KF3 := Lib.hid (KF2.out.below hb3 KF2.out.lt)
          have KH3 := Lib.hid (KH2.out.below hb3 KH2.out.lt)
          have KZ3 := Lib.hid (KZ2.out.below hb3 KZ2.out.lt)
          have HB3 : Hid (Below w.heap.size w U3) := HB2.out.trans (hb3.mono HB2.out.size)
          have KX3 := Lib.hid (KX2.out.below hb3 KX2.out.lt)
          have KB3 := Lib.hid (KB2.out.below hb3 KB2.out.lt)
          have KS3 : Hid (Blk U3 U2.heap.size 9 (sals (noS m)).toArray) := by rw [← HU3.out]; exact Blk.new U2 _ _
          have hz3 : U2.heap.size < U3.heap.size := KS3.out.lt
          rw [HU3.out] at hHeld ⊢
          refine wpAnyH_take (i := 9) (v := ?zv28) rfl (by kernel_rfl) (by kernel_rfl) (by kernel_rfl) (fun _ _ _ h => h) (Or.inl ⟨by kernel_rfl, ?zy28⟩) (by assumption) ?zr28
          case zy28 => (intro w hSw; (try dsimp only at hSw); go_simp; try with_reducible rfl)
          change wpAnyH _ _ _ _ _ _ _ (Act.put _ (some 15) _) _
          simp only [Act.put, List.setIfInBounds_toArray, List.set_cons_zero, List.set_cons_succ]
          refine wpAnyH_ready (rs := [11]) (by kernel_rfl) (by simp) (AllReadyH.cons rfl (fun K hK => ?zo29_0) AllReadyH.nil)
          case zo29_0 =>
            go_simp
            obtain ⟨n0, n1, n2, n3, n4, n5⟩ := feed_cells KX3.out
            have nf := blk_frozen KX3.out
            obtain ⟨U4, HU4⟩ : ∃ U, Hid (((((((U3.setCell ⟨U0.heap.size, 0, none⟩ (.int .i64 p)).setCell ⟨U0.heap.size, 1, none⟩ (.int .i64 (m : Int))).setCell ⟨U0.heap.size, 2, none⟩ (.int .i64 hd)).setCell ⟨U0.heap.size, 3, none⟩ (.int .i64 ht)).setCell ⟨U0.heap.size, 4, none⟩ (.slice (some ⟨U2.heap.size, 0, none⟩) m m)).setCell ⟨U0.heap.size, 5, none⟩ (.slice (some ⟨U1.heap.size, 0, none⟩) m m)) = U) := ⟨_, rfl⟩
            have KF4 : Hid (Blk U4 (w.heap.size) 28 (feedC p l d s A1 nb c1 A2 nh c2)) := by rw [← HU4.out]; exact ((((((KF3.out.setOther (p := ⟨U0.heap.size, 0, none⟩) (by show U0.heap.size ≠ w.heap.size; omega) _).setOther (p := ⟨U0.heap.size, 1, none⟩) (by show U0.heap.size ≠ w.heap.size; omega) _).setOther (p := ⟨U0.heap.size, 2, none⟩) (by show U0.heap.size ≠ w.heap.size; omega) _).setOther (p := ⟨U0.heap.size, 3, none⟩) (by show U0.heap.size ≠ w.heap.size; omega) _).setOther (p := ⟨U0.heap.size, 4, none⟩) (by show U0.heap.size ≠ w.heap.size; omega) _).setOther (p := ⟨U0.heap.size, 5, none⟩) (by show U0.heap.size ≠ w.heap.size; omega) _)
            have KH4 : Hid (Blk U4 (w.heap.size + 1) 24 #[.int .i64 (m : Int), .int .i64 hd, .int .i64 ht]) := by rw [← HU4.out]; exact ((((((KH3.out.setOther (p := ⟨U0.heap.size, 0, none⟩) (by show U0.heap.size ≠ w.heap.size + 1; omega) _).setOther (p := ⟨U0.heap.size, 1, none⟩) (by show U0.heap.size ≠ w.heap.size + 1; omega) _).setOther (p := ⟨U0.heap.size, 2, none⟩) (by show U0.heap.size ≠ w.heap.size + 1; omega) _).setOther (p := ⟨U0.heap.size, 3, none⟩) (by show U0.heap.size ≠ w.heap.size + 1; omega) _).setOther (p := ⟨U0.heap.size, 4, none⟩) (by show U0.heap.size ≠ w.heap.size + 1; omega) _).setOther (p := ⟨U0.heap.size, 5, none⟩) (by show U0.heap.size ≠ w.heap.size + 1; omega) _)
            have KZ4 : Hid (Blk U4 (w.heap.size + 1 + 1) 28 (feedC 0 0 0 0 none 0 0 none 0 0)) := by rw [← HU4.out]; exact ((((((KZ3.out.setOther (p := ⟨U0.heap.size, 0, none⟩) (by show U0.heap.size ≠ w.heap.size + 1 + 1; omega) _).setOther (p := ⟨U0.heap.size, 1, none⟩) (by show U0.heap.size ≠ w.heap.size + 1 + 1; omega) _).setOther (p := ⟨U0.heap.size, 2, none⟩) (by show U0.heap.size ≠ w.heap.size + 1 + 1; omega) _).setOther (p := ⟨U0.heap.size, 3, none⟩) (by show U0.heap.size ≠ w.heap.size + 1 + 1; omega) _).setOther (p := ⟨U0.heap.size, 4, none⟩) (by show U0.heap.size ≠ w.heap.size + 1 + 1; omega) _).setOther (p := ⟨U0.heap.size, 5, none⟩) (by show U0.heap.size ≠ w.heap.size + 1 + 1; omega) _)
            have KS4 : Hid (Blk U4 (U2.heap.size) 9 (sals (noS m)).toArray) := by rw [← HU4.out]; exact ((((((KS3.out.setOther (p := ⟨U0.heap.size, 0, none⟩) (by show U0.heap.size ≠ U2.heap.size; omega) _).setOther (p := ⟨U0.heap.size, 1, none⟩) (by show U0.heap.size ≠ U2.heap.size; omega) _).setOther (p := ⟨U0.heap.size, 2, none⟩) (by show U0.heap.size ≠ U2.heap.size; omega) _).setOther (p := ⟨U0.heap.size, 3, none⟩) (by show U0.heap.size ≠ U2.heap.size; omega) _).setOther (p := ⟨U0.heap.size, 4, none⟩) (by show U0.heap.size ≠ U2.heap.size; omega) _).setOther (p := ⟨U0.heap.size, 5, none⟩) (by show U0.heap.size ≠ U2.heap.size; omega) _)
            have KB4 : Hid (Blk U4 (U1.heap.size) 4 (bals (noB m)).toArray) := by rw [← HU4.out]; exact ((((((KB3.out.setOther (p := ⟨U0.heap.size, 0, none⟩) (by show U0.heap.size ≠ U1.heap.size; omega) _).setOther (p := ⟨U0.heap.size, 1, none⟩) (by show U0.heap.size ≠ U1.heap.size; omega) _).setOther (p := ⟨U0.heap.size, 2, none⟩) (by show U0.heap.size ≠ U1.heap.size; omega) _).setOther (p := ⟨U0.heap.size, 3, none⟩) (by show U0.heap.size ≠ U1.heap.size; omega) _).setOther (p := ⟨U0.heap.size, 4, none⟩) (by show U0.heap.size ≠ U1.heap.size; omega) _).setOther (p := ⟨U0.heap.size, 5, none⟩) (by show U0.heap.size ≠ U1.heap.size; omega) _)
            have KX4 : Hid (Blk U4 U0.heap.size 28 (feedC p (m : Int) hd ht (some ⟨U2.heap.size, 0, none⟩) m m (some ⟨U1.heap.size, 0, none⟩) m m)) := by rw [← HU4.out]; exact blk_six KX3.out _ _ _ _ _ _
            have HB4 : Hid (Below w.heap.size w U4) := by rw [← HU4.out]; exact below_six HB3.out (by omega) _ _ _ _ _ _
            go_simp
            rw [HU4.out]
            refine hK.out _ _ (⟨feed_cells KF4.out, KH4.out.cell 0, KH4.out.cell 1, KH4.out.cell 2⟩) (fun hHeld => ?_)
            clear hK K
            (try simp only [Act.put])
            refine wpAnyH_done (by kernel_rfl) ?_ _
            (try go_wp2_with fail)
            go_meet
            exact ⟨_, _, _, rfl, by omega, by omega, by omega, by omega, by omega, by omega, KX4, KS4, KB4, KZ4, KF4, HB4⟩
  case rest =>
  obtain ⟨gx, gs, gb, rfl, h1, h2, h3, hxs, hxb, hsb, KX, KS, KB, KZc, KFc, HBc⟩ := hcut
  clear hmkS hmkB KF KH KZ HB
  obtain ⟨k0, k1, k2, k3, k4, k5⟩ := feed_cells KFc.out
  obtain ⟨x0, x1, x2, x3, x4, x5⟩ := feed_cells KX.out
  have hne0 : w.heap.size ≠ gx := by omega
  go_upto_region 3 with (refine wpList_copy_row (o := ⟨some 20, _, _, _, _, _⟩) rfl (.tmp 17) (.tmp 19) 25 25 rfl 9 Tryd.underlying25 (by kernel_rfl) gs A1 m m nb c1 rfl rfl (sals (noS m)) 9 KS.out (sals bs) (by rw [sals_length, HNB.out]; exact (Nat.min_eq_left hbm).symm) (src_strs (HF.out.belowS HBc.out).strs) (by rw [sals_length, sals_length, noS_length, HNB.out]; exact hbm) (sals_one bs) ?_; intro w2 HG2 hg2)
  have KX2 := Lib.hid (KX.out.grown hg2 (fun e => by injection e with e; omega))
  have KB2 := Lib.hid (KB.out.grown hg2 (fun e => by injection e with e; omega))
  have KZ2 := Lib.hid (KZc.out.grown hg2 (fun e => by injection e with e; omega))
  have KF2 := Lib.hid (KFc.out.grown hg2 (fun e => by injection e with e; omega))
  have HB2 : Hid (Below w.heap.size w w2) := HBc.out.grown hg2 HBc.out.size (fun k hk => by injection hk with hk; omega)
  have KS2 : Hid (Blk w2 gs 9 (sals (longS bs m)).toArray) := by rw [← HSP.out]; exact HG2.out
  clear HG2 hg2 k0 k1 k2 k3 k4 k5 x0 x1 x2 x3 x4 x5
  obtain ⟨k0, k1, k2, k3, k4, k5⟩ := feed_cells KF2.out
  obtain ⟨x0, x1, x2, x3, x4, x5⟩ := feed_cells KX2.out
  go_upto_region 4 with (refine wpList_copy_row (o := ⟨some 25, _, _, _, _, _⟩) rfl (.tmp 22) (.tmp 24) 26 26 rfl 4 Tryd.underlying26 (by kernel_rfl) gb A2 m m nh c2 rfl rfl (bals (noB m)) 4 KB2.out (bals hs) (by rw [bals_length, HNH.out]; exact (Nat.min_eq_left hhm).symm) (src_bools (HF.out.belowS HB2.out).bits) (by rw [bals_length, bals_length, noB_length, HNH.out]; exact hhm) (bals_one hs) ?_; intro w3 HG3 hg3)
  have KX3 := Lib.hid (KX2.out.grown hg3 (fun e => by injection e with e; omega))
  have KS3 := Lib.hid (KS2.out.grown hg3 (fun e => by injection e with e; omega))
  have KZ3 := Lib.hid (KZ2.out.grown hg3 (fun e => by injection e with e; omega))
  have HB3 : Hid (Below w.heap.size w w3) := HB2.out.grown hg3 HB2.out.size (fun k hk => by injection hk with hk; omega)
  have KB3 : Hid (Blk w3 gb 4 (bals (longB hs m)).toArray) := by rw [← HSB.out]; exact HG3.out
  clear HG3 hg3 k0 k1 k2 k3 k4 k5 x0 x1 x2 x3 x4 x5
  obtain ⟨x0, x1, x2, x3, x4, x5⟩ := feed_cells KX3.out
  obtain ⟨r0, r1, r2, r3, r4, r5⟩ := feed_cells KZ3.out
  have rf := blk_frozen KZ3.out
  go_wp2
  obtain ⟨Y, HY⟩ : ∃ Y, Hid (((((((w3.setCell ⟨w.heap.size + 1 + 1, 0, none⟩ (.int .i64 p)).setCell ⟨w.heap.size + 1 + 1, 1, none⟩ (.int .i64 (m : Int))).setCell ⟨w.heap.size + 1 + 1, 2, none⟩ (.int .i64 hd)).setCell ⟨w.heap.size + 1 + 1, 3, none⟩ (.int .i64 ht)).setCell ⟨w.heap.size + 1 + 1, 4, none⟩ (.slice (some ⟨gs, 0, none⟩) m m)).setCell ⟨w.heap.size + 1 + 1, 5, none⟩ (.slice (some ⟨gb, 0, none⟩) m m)) = Y) := ⟨_, rfl⟩
  have hk : ∀ i, i ≠ w.heap.size + 1 + 1 → Y.heap[i]? = w3.heap[i]? := fun i hi => by
    rw [← HY.out]
    rw [Below.heap_setCell _ ⟨w.heap.size + 1 + 1, 5, none⟩ _ i hi, Below.heap_setCell _ ⟨w.heap.size + 1 + 1, 4, none⟩ _ i hi, Below.heap_setCell _ ⟨w.heap.size + 1 + 1, 3, none⟩ _ i hi, Below.heap_setCell _ ⟨w.heap.size + 1 + 1, 2, none⟩ _ i hi, Below.heap_setCell _ ⟨w.heap.size + 1 + 1, 1, none⟩ _ i hi, Below.heap_setCell _ ⟨w.heap.size + 1 + 1, 0, none⟩ _ i hi]
  have KSY : Blk Y gs 9 (sals (longS bs m)).toArray := (hk gs (by omega)).trans KS3.out
  have KBY : Blk Y gb 4 (bals (longB hs m)).toArray := (hk gb (by omega)).trans KB3.out
  have KRY : Hid (Blk Y (w.heap.size + 1 + 1) 28 (feedC p (m : Int) hd ht (some ⟨gs, 0, none⟩) m m (some ⟨gb, 0, none⟩) m m)) := by rw [← HY.out]; exact blk_six KZ3.out _ _ _ _ _ _
  have HBY : Hid (Below w.heap.size w Y) := by rw [← HY.out]; exact below_six HB3.out (by omega) _ _ _ _ _ _
  have hoS := owns_blk (base := w.heap.size) KSY (by omega) (by rw [HLS.out]; unfold maxLen; omega)
  have hoB := ownb_blk (base := w.heap.size) KBY (by omega) (by rw [HLB.out]; unfold maxLen; omega)
  rw [HLS.out] at hoS
  rw [HLB.out] at hoB
  rw [HY.out]
  clear hk
  obtain ⟨y0, y1, y2, y3, y4, y5⟩ := feed_cells KRY.out
  exact bodyPost_ret (v := feedV p (m : Int) hd ht (some ⟨gs, 0, none⟩) m m (some ⟨gb, 0, none⟩) m m) (by simp [results, Tryd.results37, go_sem, y0, y1, y2, y3, y4, y5]) rfl ⟨some ⟨gs, 0, none⟩, m, some ⟨gb, 0, none⟩, m, by rw [HLS.out, HLB.out], ⟨hoS, hoB, HFIT.out⟩, HBY.out⟩

end Go.Proofs.YtgklkceoafohmaaDoor
