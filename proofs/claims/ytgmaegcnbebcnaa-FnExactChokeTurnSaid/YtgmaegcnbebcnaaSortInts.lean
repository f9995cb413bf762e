/- The library's sort of integers in memory of the call's own, and slices.Sorted of slices.Values: the integers, ascending, in memory of the call's own. Conditions: the integers lie in memory, at most 16. -/
import Derived.Test.YtgmaegcnbebcnaaRangeOut
import Derived.Test.YtgmaegcnbebcnaaBaseA
import Derived.Test.YtgmaegcnbebcnaaLayP
import Derived.Maps.AppendAt
import Derived.Lib.SlKeysI
namespace Go.Proofs.Ytgmaegcnbebcnaa
open Go.RowKit Go.Shelf Go.Sort
set_option linter.unusedVariables false

/-- The integers, ascending. -/
abbrev ascZ (zs : List Int) : List Int := zs.mergeSort fun x y => decide (x ≤ y)
theorem ascZ_length (zs : List Int) : (ascZ zs).length = zs.length := List.length_mergeSort _

theorem sortInts_any (base c n : Nat) (A : Option Addr) (zs : List Int) (w : World) (hO : OwnInts w base A c zs) (hn : zs.length = n) (hm : n ≤ 1000000) :
    Calls Try.prog 27 #[.slice A n c] w fun e w' => e = .returned (.tuple #[]) ∧ OwnInts w' base A c (ascZ zs) ∧ Below base w w' := by
  subst hn
  rcases hO.2 with ⟨hv, hz⟩ | ⟨g, cap, cur, hv, hbase, hgb, r1, r2, r3, r4⟩
  · have hss : zs = [] := List.eq_nil_of_length_eq_zero hz
    subst hss
    refine (AnyM.slices_Sort_int_none lsort A c w).mono ?_
    rintro e w' ⟨rfl, rfl⟩
    refine ⟨rfl, ?_, Below.refl _ _⟩
    have : ascZ [] = [] := by unfold ascZ; simp
    rw [this]
    exact hO
  · injection hv with hA hl hc
    subst hA
    subst hc
    have hH : Holds encZ w g 0 zs.toArray := holds_of_block_i hgb (by rw [Nat.mul_one] at r4; exact r4)
    have hgl : g < w.heap.size := (Array.getElem?_eq_some_iff.1 hgb).1
    refine (AnyM.slices_Sort_int lsort g 0 c zs w hH hgl (by omega)).mono ?_
    rintro e w' ⟨rfl, nn, os, rfl⟩
    refine ⟨rfl, ?_, (Below.refl base w).grown (grownBy_sorted_i _) (by omega) (fun j hj => by cases hj; exact hbase)⟩
    have h := ownsRow_sorted_i (n := nn) (os := os) (ss := zs) (ts := ascZ zs) (ascZ_length zs) hbase hgb r1 r2 r3
    unfold OwnInts
    rw [ascZ_length]
    exact h

section
attribute [local go_sem] Oper.semAt_some

set_option maxRecDepth 100000 in
set_option maxHeartbeats 4000000 in
/-- The iterator that slices.Values hands back. -/
theorem values1_makes (Bs n₀ : Nat) (A : Option Addr) (cap : Nat) (zs : List Int) (hl : zs.length ≤ 16) (w : World) (hBs : Bs < w.heap.size) (hn₀ : n₀ ≤ w.heap.size)
    (hc : w.cell? ⟨Bs, 0, none⟩ = some (.slice A zs.length cap)) (hI : IntsAt w n₀ A zs) :
    Makes Try.prog 52 #[.pointer (some ⟨Bs, 0, none⟩)] (fun x : Int => #[.int .i64 x]) n₀ 34 (fun ys => ys = zs) zs.length w := by
  intro n0 l J W hW hJ hY h0
  obtain ⟨n, hn⟩ : ∃ n, 1 ≤ n := ⟨1, Nat.le_refl _⟩
  have hcW := (hW.cell (p := ⟨Bs, 0, none⟩) hBs).trans hc
  have hIW := hI.below hW hn₀
  obtain ⟨m, HM⟩ : ∃ m, Hid (zs.length = m) := ⟨_, rfl⟩
  rw [HM.out] at hcW hl
  have HY := Lib.hid hY
  have HIW := Lib.hid hIW
  have HJ0 : Hid (J (zs.take 0) W) := h0
  clear hc hI hY hIW h0 hJ hW
  refine callsIn_wide.2 ((callsIn_wide (n := n)).1 ?_)
  refine callsIn_of_wp Try.func52 rfl trivial ?_ rfl
  simp only [Try.ntmps52, List.size_toArray, List.length_cons, List.length_nil, Nat.reduceAdd, Nat.reduceSub, Array.replicate_succ, Array.replicate_zero, List.push_toArray, List.append_toArray, List.nil_append, List.cons_append]
  gi_wp2
  gi_loopw [7] (fun i wr => ∃ k : Nat, k ≤ m ∧ i = .int .i64 k ∧ Hid (J (zs.take k) wr) ∧ Hid (Below n₀ W wr)) (fun i _ => m - (intOf i).toNat)
  case atStart => exact ⟨0, Nat.zero_le _, rfl, HJ0, Below.refl _ _⟩
  case round =>
    obtain ⟨k, hk, rfl, HJ, HB⟩ := hrel
    by_cases hlt : k < m
    · have hkz : k < zs.length := by rw [HM.out]; exact hlt
      obtain ⟨blk, o, rfl, hb, hc⟩ := (HIW.out.below HB.out (Nat.le_refl _)) (by omega)
      have hck := hc k hkz
      clear hc
      have hki : (k : Int) < (m : Int) := by omega
      have hk0 : (0 : Int) ≤ (k : Int) := by omega
      obtain ⟨x, HX⟩ : ∃ x, Hid (nth zs k = x) := ⟨_, rfl⟩
      have HT : Hid (zs.take (k + 1) = zs.take k ++ [x]) := by
        show _ = _
        rw [List.take_succ_eq_append_getElem hkz, ← HX.out]
        unfold nth
        rw [List.getD_eq_getElem?_getD, List.getElem?_eq_getElem hkz]; rfl
      rw [HX.out] at hck
      obtain ⟨fn, tmps, assign, body, hy, hR⟩ := HY.out (n - 1) (zs.take k) x wr HJ.out (by rw [List.length_take]; omega)
      clear hkz hb
      gi_wp2
      refine hR.mono ?_
      rintro e W3 ⟨rfl, hJ3, hb3, hk3, hx3⟩
      have HJ3 : Hid (J (zs.take (k + 1)) W3) := by show J _ _; rw [HT.out]; exact hJ3
      have HB3 := Lib.hid (HB.out.trans hb3)
      clear hJ3 hb3 hk3 hx3 hy hR
      gi_wp2
      go_roundw
      case rel => exact ⟨k + 1, by omega, by go_num, HJ3, HB3⟩
      case measure => simp [intOf]; omega
    · have hkm : k = m := by omega
      subst hkm
      have HJE : Hid (J zs wr) := by
        have h := HJ.out
        rw [List.take_of_length_le (by rw [HM.out]; omega)] at h
        exact h
      gi_wp2
      go_end0
      exact ⟨⟨_, rfl⟩, zs, rfl, HJE.out⟩

set_option maxHeartbeats 1000000 in
theorem values_any (v : Option Addr) (len cap : Nat) (w : World) :
    Calls Try.prog 36 #[.slice v len cap] w fun e w' => e = .returned (.func (.func 52) #[] #[.pointer (some ⟨w.heap.size, 0, none⟩)]) ∧ w' = w.alloc (.cells #[.slice v len cap] 22) := by
  go_enter Try.func36, Try.ntmps36
  go_wp2
  go_ret
  exact ⟨rfl, rfl⟩

/-- What AppendSeq leaves. -/
def CollectedI (w : World) (zs : List Int) (e : Ending) (w' : World) : Prop :=
  ∃ v, e = .returned v ∧ w'.ownsRow w.heap.size 3 1 v zs.length (vals zs) ∧ Below w.heap.size w w'

set_option maxRecDepth 100000 in
set_option maxHeartbeats 4000000 in
theorem appSeq_in (n : Nat) (hn : 3 ≤ n) (gf : Nat) (lb : Array Value) (eg : ∀ args w, (callFunc gf args).run Try.prog w = .ok (.enter gf args) w) (rs : List Int) (hN : rs.length ≤ 17) (w : World)
    (hseq : ∀ W, Below w.heap.size w W → Makes Try.prog gf lb (fun x : Int => #[.int .i64 x]) w.heap.size 34 (fun ys => ys = rs) rs.length W) :
    CallsIn Fence.wide n Try.prog 62 #[.slice none 0 0, .func (.func gf) #[] lb] w (CollectedI w rs) := by
  have h1 : 1 ≤ n := by omega
  obtain ⟨i0, hi, hz0, hz1, hz2⟩ := info_parts int_info
  refine callsIn_of_wp_marks Try.func62 rfl trivial ?_ rfl
  simp only [Try.ntmps62, List.size_toArray, List.length_cons, List.length_nil, Nat.reduceAdd, Nat.reduceSub, Array.replicate_succ, Array.replicate_zero, List.push_toArray, List.append_toArray, List.nil_append, List.cons_append]
  gi_wp2
  have bO := Boxed.new w 22 (.slice none 0 0)
  have hB0 : Below w.heap.size w (w.alloc (.cells #[.slice none 0 0] 22)) := (Below.refl _ w).alloc (Nat.le_refl _) _
  refine range_out h1 (gf := gf) (lb := lb) rfl eg (n₀ := w.heap.size) (by simp) (hseq _ hB0) (fun _ => rfl)
    (fun pre W => (∃ v, Boxed W w.heap.size 22 v ∧ W.ownsRow w.heap.size 3 1 v (pre).length (vals (pre)) ∧ True) ∧ Below w.heap.size w W)
    (OwnFrom.and (Own.from (holdsRow_own w.heap.size w.heap.size 22 3 1 (fun pre : List Int => pre.length) (fun pre => vals pre) (fun _ _ => True)) _) (ownFrom_below (Nat.le_refl _) (by simp)))
    ⟨⟨_, bO, World.ownsRow_nil _ _ _ _, trivial⟩, hB0⟩
    (fun x => { tmps := #[.slice none 0 0, .func (.func gf) #[] lb, .pointer (some ⟨w.heap.size, 0, none⟩), undef, .slice none 0 0, .int .i64 x, .func (.func gf) #[] lb, .int .i64 x, undef, undef, undef, undef, undef], defers := [] }) ?assign ?body ?done
  case assign =>
    intro m l x W K hK
    gi_wp2
    exact hK
  case body =>
    rintro m l pre x W ⟨⟨v, hv, hrow, -⟩, hB⟩ hlt
    have hc := hv.cell
    have hsz := hB.size
    have hz17 : pre.length ≤ 17 := by omega
    gi_wp2_with (gi_at_builtin; refine wpListIn_append_own _ rfl _ _ 22 rfl w.heap.size 3 i0 (.int .i64 0) 1 8 Try.underlying22 hi hz0 hz1 hz2 rfl (by decide) _ _ _ rfl (hrow.alloc _) ⟨W.heap.size, 0, none⟩ 1 1 [.int .i64 x] rfl rfl (cell_one_new _ _ _) (by simp [Value.oneCell']) (by unfold maxLen; omega) (by omega) (by simp; omega) ?_; intro v' w1 hown' hgrow _; obtain ⟨g', cap', rfl⟩ := ownsRow_succ hown'; obtain ⟨hv1, hv2, hr2, hk2, hb2⟩ := hv.appended (by decide) hrow hB.size (Nat.le_refl _) hown' hgrow; have hc1 := hv1.cell; have hf1 := hv1.frozen)
    refine ⟨hk2.from _, hb2, ⟨⟨_, hv2, ?_, trivial⟩, hB.trans hb2⟩, ?_⟩
    · rw [List.length_append, vals_append]
      exact hr2
    · intro k u hk hb
      have h1 : Boxed w1 k 34 u := (hb.alloc _).kept hgrow (hb.not_row (by decide) hrow)
      exact h1.kept (grownBy_setCell' _ _ _) (fun e => by injection e with e; simp at hk; omega)
  case done =>
    rintro D ys W hD hys ⟨⟨v, hv, hrow, -⟩, hB⟩ hK
    have hc := hv.cell
    rw [hys] at hrow
    gi_wp2
    refine ⟨by simp, .inl ⟨_, _, rfl, run_takeDeferred hK, ?_⟩⟩
    exact ⟨_, results_tmp rfl _ _ _, v, rfl, ownsRow_putObj hrow _ hK rfl, hB.trans (belowK_b (w := w) (Nat.le_refl _) W D _ _ (by simp at hD; omega) hK rfl rfl)⟩

set_option maxHeartbeats 1000000 in
theorem coll_in (n : Nat) (hn : 4 ≤ n) (gf : Nat) (lb : Array Value) (eg : ∀ args w, (callFunc gf args).run Try.prog w = .ok (.enter gf args) w) (rs : List Int) (hN : rs.length ≤ 17) (w : World)
    (hseq : ∀ W, Below w.heap.size w W → Makes Try.prog gf lb (fun x : Int => #[.int .i64 x]) w.heap.size 34 (fun ys => ys = rs) rs.length W) :
    CallsIn Fence.wide n Try.prog 51 #[.func (.func gf) #[] lb] w (CollectedI w rs) := by
  have h1 : 1 ≤ n := by omega
  refine callsIn_of_wp Try.func51 rfl trivial ?_ rfl
  simp only [Try.ntmps51, List.size_toArray, List.length_cons, List.length_nil, Nat.reduceAdd, Nat.reduceSub, Array.replicate_succ, Array.replicate_zero, List.push_toArray, List.append_toArray, List.nil_append, List.cons_append]
  gi_wp2_with (refine ⟨trivial, ?_⟩; gi_at_call 62; refine (appSeq_in (n - 1) (by omega) gf lb eg rs hN _ hseq).mono ?_; rintro e w' ⟨v, rfl, hrow, hb⟩)
  go_ret
  exact ⟨v, rfl, hrow, hb⟩

end

theorem rowI_base {w : World} {base b : Nat} {e : TypeId} {size : Nat} {v : Value} {k : Nat} {xs : List Value} (h : w.ownsRow base e size v k xs) (hb : b ≤ base) : w.ownsRow b e size v k xs := by
  refine ⟨h.1, ?_⟩
  rcases h.2 with h0 | ⟨g, c, cur, hv, hg, hr⟩
  · exact .inl h0
  · exact .inr ⟨g, c, cur, hv, by omega, hr⟩
theorem retI_of {w w' : World} {zs : List Int} {v : Value} (h : w'.ownsRow w.heap.size 3 1 v zs.length (vals zs)) (hb : Below w.heap.size w w') : RetInts w zs (.returned v) w' := by
  rcases h.2 with ⟨hv, hn⟩ | ⟨g, c, cur, hv, _⟩
  · refine ⟨none, 0, by rw [hv, hn], ?_, hb⟩
    unfold OwnInts
    rw [hn]
    rw [hv, hn] at h
    exact h
  · subst hv
    exact ⟨some ⟨g, 0, none⟩, c, rfl, h, hb⟩


set_option maxHeartbeats 2000000 in
set_option maxRecDepth 100000 in
/-- **slices.Sorted of slices.Values**. -/
theorem sortedV_any (A : Option Addr) (cap : Nat) (zs : List Int) (hl : zs.length ≤ 16) (w : World) (hI : IntsAt w w.heap.size A zs) :
    Calls Try.prog 35 #[.func (.func 52) #[] #[.pointer (some ⟨w.heap.size, 0, none⟩)]] (w.alloc (.cells #[.slice A zs.length cap] 22)) (RetInts w (ascZ zs)) := by
  have bN := Boxed.new w 22 (.slice A zs.length cap)
  have hB0 : Below w.heap.size w (w.alloc (.cells #[.slice A zs.length cap] 22)) := (Below.refl _ w).alloc (Nat.le_refl _) _
  have C := coll_in 4 (Nat.le_refl _) 52 #[.pointer (some ⟨w.heap.size, 0, none⟩)] (enters_of Try.func52 (by kernel_rfl) rfl) zs (by omega) (w.alloc (.cells #[.slice A zs.length cap] 22)) (fun W hW =>
    values1_makes w.heap.size _ A cap zs hl W (by have := hW.size; simp at this; omega) hW.size ((hW.cell (p := ⟨w.heap.size, 0, none⟩) (by simp)).trans bN.cell) ((hI.allocS _).below hW (Nat.le_refl _)))
  have C2 := Lib.hid (callsIn_wide.1 C)
  obtain ⟨W, HW⟩ : ∃ W, Hid (w.alloc (.cells #[.slice A zs.length cap] 22) = W) := ⟨_, rfl⟩
  have HB := Lib.hid hB0
  have HS : Hid (w.heap.size ≤ W.heap.size) := by rw [← HW.out]; show _ ≤ _; simp
  rw [HW.out] at C2 HB ⊢
  clear C bN hB0 hI
  go_enter Try.func35, Try.ntmps35
  go_wp2_with fail
  refine C2.out.mono ?_
  rintro e w1 ⟨v, rfl, hrow, hb⟩
  obtain ⟨A1, c1, hv, hO, hb1⟩ := retI_of hrow hb
  injection hv with hv
  subst hv
  have HO := Lib.hid hO
  have HB1 := Lib.hid hb1
  clear hrow hb hO hb1 C2
  have C3 := Lib.hid (sortInts_any W.heap.size c1 zs.length A1 zs w1 HO.out rfl (by omega))
  go_wp2_with fail
  refine C3.out.mono ?_
  rintro e w2 ⟨rfl, hO2, hb2⟩
  have HO2 := Lib.hid hO2
  have HB2 := Lib.hid hb2
  clear hO2 hb2 C3
  go_wp2
  go_ret
  exact ⟨A1, c1, by rw [ascZ_length]; rfl, HO2.out.base_le HS.out, HB.out.trans ((HB1.out.trans HB2.out).mono HS.out)⟩

end Go.Proofs.Ytgmaegcnbebcnaa
