/- Contract of BitsOf: the bits of valid runs and true, an empty slice and false otherwise; nothing that was there is changed. Condition: the lengths lie in memory. -/
import Derived.Test.YtmepbogfdpmfaaaLensIter
import Derived.Test.YtmepbogfdpmfaaaRunsValid
import Derived.Test.YtmepbogfdpmfaaaRepeatB
import Derived.Test.YtmepbogfdpmfaaaRoundRegion
namespace Go.Proofs.Ytmepbogfdpmfaaa
open Go.RowKit Go.Shelf
set_option linter.unusedVariables false

/-- What a function hands back that makes a slice of bools and tells whether it could. -/
def RetBits (w : World) (bs : List Bool) (ok : Bool) (e : Ending) (w' : World) : Prop :=
  ∃ A cap, e = .returned (.tuple #[.slice A bs.length cap, .bool ok]) ∧ OwnBools w' w.heap.size A cap bs ∧ Below w.heap.size w w'

/-- The bits of runs. -/
def expP : List (Bool × Nat) → List Bool := fun R => R.flatMap fun p => List.replicate p.2 p.1
theorem expP_snoc (R : List (Bool × Nat)) (p : Bool × Nat) : expP (R ++ [p]) = expP R ++ List.replicate p.2 p.1 := by unfold expP; rw [List.flatMap_append]; simp
theorem expP_pairsTo (zs : List Int) : ∀ k, expP (pairsTo zs k) = bitsTo zs k
  | 0 => rfl
  | k + 1 => by rw [pairsTo, expP_snoc, expP_pairsTo zs k]; rfl
theorem expP_length : ∀ R : List Run, (expP (R.map Run.pair)).length ≤ 16 * R.length
  | [] => by simp [expP]
  | r :: R => by
    have := expP_length R
    have hs := r.small
    have : (expP ((r :: R).map Run.pair)).length = r.len + (expP (R.map Run.pair)).length := by unfold expP; simp [Run.pair]
    rw [this, List.length_cons]
    omega

/-- A box and a row of the call's own behind a call that kept everything, an append to the row and the store of the result into the box. -/
theorem behind_append {W w2 w3 : World} {n₀ Bx : Nat} {t e : TypeId} {u v' : Value} {k m : Nat} {xs ys : List Value} (hv2 : Boxed w2 Bx t u) (hte : t ≠ e) (hrow2 : w2.ownsRow n₀ e 1 u k xs) (hb2 : Below W.heap.size W w2) (hn₀ : n₀ ≤ W.heap.size) (hBx : n₀ ≤ Bx)
    (hown' : w3.ownsRow n₀ e 1 v' m ys) (hgrow : w2.grownBy w3 u.ownBlock) :
    Boxed w3 Bx t u ∧ Boxed (w3.setCell ⟨Bx, 0, none⟩ v') Bx t v' ∧ (w3.setCell ⟨Bx, 0, none⟩ v').ownsRow n₀ e 1 v' m ys ∧ KeepsOthers W (w3.setCell ⟨Bx, 0, none⟩ v') ∧ Below n₀ W (w3.setCell ⟨Bx, 0, none⟩ v') := by
  have hv3 : Boxed w3 Bx t u := hv2.kept hgrow (hv2.not_row hte hrow2)
  have hk2 : KeepsOthers W w2 := ⟨hb2.size, fun k o ho _ => (hb2.block k (Array.getElem?_eq_some_iff.1 ho).1).trans ho⟩
  refine ⟨hv3, hv3.set v', hown'.kept (grownBy_setCell' w3 Bx v') (.inr (hv3.not_row hte hown').symm), ?_, ?_⟩
  · refine (hk2.trans (KeepsOthers.of_grownBy hgrow fun j o ej hj => ?_)).trans (KeepsOthers.setCell _ _ _)
    rcases hrow2.2 with ⟨rfl, _⟩ | ⟨g, cap, cur, rfl, _, hgb, _⟩
    · simp [Value.ownBlock] at ej
    · obtain rfl : g = j := by simpa [Value.ownBlock] using ej
      rw [hgb] at hj; cases hj; rfl
  · refine ((hb2.mono hn₀).grown hgrow (by have := hb2.size; omega) fun j ej => ?_).setCell (p := ⟨Bx, 0, none⟩) hBx v'
    rcases hrow2.2 with ⟨rfl, _⟩ | ⟨g, cap, cur, rfl, hb, _, _⟩
    · simp [Value.ownBlock] at ej
    · obtain rfl : g = j := by simpa [Value.ownBlock] using ej
      exact hb

section
attribute [local go_sem] Oper.semAt_some

set_option maxRecDepth 100000 in
set_option maxHeartbeats 8000000 in
theorem bitsOf_in (n : Nat) (hn : 3 ≤ n) (A : Option Addr) (cap : Nat) (zs : List Int) (w : World) (hm : zs.length ≤ maxLen) (hg : goodK zs zs.length = true) (hI : IntsAt w w.heap.size A zs) :
    CallsIn Fence.wide n Try.prog 13 #[.slice A zs.length cap] w (RetBits w (bitsTo zs zs.length) true) := by
  have h1 : 1 ≤ n := by omega
  have HI := Lib.hid hI
  have HG := Lib.hid hg
  have HLM := Lib.hid hm
  have hl17 : zs.length ≤ 17 := by have := goodK_sum hg; omega
  have CV : Hid (Calls Try.prog 31 #[.slice A zs.length cap] w fun e w' => e = .returned (.bool true) ∧ w = w') := by
    have := runsValid_any A cap zs w hI hm
    rw [hg] at this
    exact this
  clear hI hg hm
  obtain ⟨m, HM⟩ : ∃ m, Hid (zs.length = m) := ⟨_, rfl⟩
  rw [HM.out] at CV hl17
  rw [HM.out]
  refine callsIn_of_wp_marks Try.func13 rfl trivial ?_ rfl
  simp only [Try.ntmps13, List.size_toArray, List.length_cons, List.length_nil, Nat.reduceAdd, Nat.reduceSub, Array.replicate_succ, Array.replicate_zero, List.push_toArray, List.append_toArray, List.nil_append, List.cons_append]
  gi_wp2_with (first
    | (refine ⟨trivial, ?_⟩; gi_at_call 31; refine (callsIn_wide.2 CV.out).mono ?_; rintro e w' ⟨rfl, rfl⟩)
    | (refine ⟨trivial, ?_⟩; gi_at_call 32; refine (lens_in (n - 1) _ _ _ _).mono ?_; rintro e w' ⟨rfl, rfl⟩))
  have bO : Boxed ((w.alloc (.cells #[] 4)).alloc (.cells #[.slice (some ⟨w.heap.size, 0, none⟩) 0 0] 23)) (w.heap.size + 1) 23 (.slice (some ⟨w.heap.size, 0, none⟩) 0 0) := by
    have := Boxed.new (w.alloc (.cells #[] 4)) 23 (.slice (some ⟨w.heap.size, 0, none⟩) 0 0)
    rwa [World.size_alloc] at this
  have bN : Boxed (((w.alloc (.cells #[] 4)).alloc (.cells #[.slice (some ⟨w.heap.size, 0, none⟩) 0 0] 23)).alloc (.cells #[.slice A m cap] 25)) (w.heap.size + 1 + 1) 25 (.slice A m cap) := by
    have := Boxed.new ((w.alloc (.cells #[] 4)).alloc (.cells #[.slice (some ⟨w.heap.size, 0, none⟩) 0 0] 23)) 25 (.slice A m cap)
    rwa [World.size_alloc, World.size_alloc] at this
  have hB0 : Below w.heap.size w (((w.alloc (.cells #[] 4)).alloc (.cells #[.slice (some ⟨w.heap.size, 0, none⟩) 0 0] 23)).alloc (.cells #[.slice A m cap] 25)) := (((Below.refl _ w).alloc (Nat.le_refl _) _).alloc (by simp) _).alloc (by simp; omega) _
  have hrow0 : (((w.alloc (.cells #[] 4)).alloc (.cells #[.slice (some ⟨w.heap.size, 0, none⟩) 0 0] 23)).alloc (.cells #[.slice A m cap] 25)).ownsRow w.heap.size 4 1 (.slice (some ⟨w.heap.size, 0, none⟩) 0 0) 0 [] := ((OwnBools.new w).alloc _).alloc _
  refine wpIn_rangeFunc_ownG rfl h1 (gf := 39) (lb := #[.pointer (some ⟨w.heap.size + 1 + 1, 0, none⟩)]) rfl trivial (enters_of Try.func39 (by kernel_rfl) rfl)
    (lens_stops (n - 1) (by omega) (w.heap.size + 1 + 1) w.heap.size A cap zs HG.out _ (by simp) (by simp; omega) (by rw [HM.out]; exact bN.cell) (HI.out.below hB0 (Nat.le_refl _))) belowK_t (belowK_b (by simp; omega)) (Below.refl _ _) (fun _ => rfl)
    (fun pre W => (∃ v, Boxed W (w.heap.size + 1) 23 v ∧ W.ownsRow w.heap.size 4 1 v (expP (pre.map Run.pair)).length (bals (expP (pre.map Run.pair))) ∧ True) ∧ Below w.heap.size w W)
    (fun _ _ _ => False)
    (OwnFrom.and (Own.from (holdsRow_own w.heap.size (w.heap.size + 1) 23 4 1 (fun pre => (expP (List.map Run.pair pre)).length) (fun pre => bals (expP (List.map Run.pair pre))) (fun _ _ => True)) _) (ownFrom_below (Nat.le_refl _) (by simp; omega)))
    (fun _ _ _ _ _ hs _ _ => hs)
    ⟨⟨_, bO.alloc _, hrow0, trivial⟩, hB0⟩
    (fun x => { tmps := #[.slice A m cap, undef, .slice none 0 0, .bool false, .pointer (some ⟨w.heap.size + 1, 0, none⟩), .bool x.set, .int .i64 (x.len : Int), .slice A m cap, .bool true, .bool false, undef, .slice (some ⟨w.heap.size, 0, none⟩) 0 0, .slice A m cap, .func (.func 39) #[] #[.pointer (some ⟨w.heap.size + 1 + 1, 0, none⟩)], .bool x.set, .int .i64 (x.len : Int), undef, undef, undef, undef, undef, undef, undef], defers := [] }) ?assign ?body ?done ?stop
  case assign =>
    intro l x W K hK
    gi_wp2
    exact hK
  case body =>
    rintro l pre ⟨s, c, hs⟩ W ⟨⟨v, hv, hrow, -⟩, hB⟩ hpre
    have hp16 : pre.length ≤ 16 := by rw [HM.out] at hpre; omega
    have hdl := expP_length pre
    have hsn : expP ((pre ++ [(⟨s, c, hs⟩ : Run)]).map Run.pair) = expP (pre.map Run.pair) ++ List.replicate c s := by
      rw [List.map_append, List.map_cons, List.map_nil, expP_snoc]; rfl
    obtain ⟨ds, HD⟩ : ∃ ds, Hid (expP (pre.map Run.pair) = ds) := ⟨_, rfl⟩
    rw [HD.out] at hrow hdl hsn
    have HSN := Lib.hid hsn
    clear hsn hpre
    obtain ⟨X, cx, rfl⟩ : ∃ X cx, v = .slice X ds.length cx := by
      rcases hrow.2 with ⟨hv', hn'⟩ | ⟨g, c, cur, hv', _⟩
      · exact ⟨none, 0, by rw [hv', hn']⟩
      · exact ⟨_, _, hv'⟩
    have hown : OwnBools W w.heap.size X cx ds := hrow
    have hc := hv.cell
    have hsz := hB.size
    have hlt := hv.lt
    obtain ⟨L, HL⟩ : ∃ L, Hid (ds.length = L) := ⟨_, rfl⟩
    rw [HL.out] at hv hc hdl
    have cellB : ∀ V : World, (V.alloc (.cells #[.bool s] 4)).cell? ⟨V.heap.size, 0, none⟩ = some (.bool s) := fun V => (Boxed.new V 4 (.bool s)).cell
    gi_wp2
    refine wpIn_region_any (by kernel_rfl) (wpAnyIn_of_wpAny l _ ?hd ?hq _ _ _ _ ?main)
    case hd =>
      intro i o ho c'
      have := Array.mem_of_getElem? ho
      simp at this
      rcases this with rfl | rfl | rfl | rfl | rfl | rfl | rfl <;> simp
    case hq => exact fun ⟨_, _, h⟩ => h
    case main =>
      change wpAny _ _ _ _ _ _ _ (World.drew _)
      refine wpAny_take (i := 1) (v := .bool s) rfl (by kernel_rfl) (by kernel_rfl) (by kernel_rfl) (fun _ _ _ h => h) (Or.inl ⟨by rfl, fun w => by go_simp⟩) ?_
      refine wpAny_take (i := 3) (v := .int .i64 (c : Int)) rfl (by kernel_rfl) (by kernel_rfl) (by kernel_rfl) (fun _ _ _ h => h) (Or.inl ⟨by rfl, fun w => by go_simp⟩) ?_
      refine wpAny_ready (rs := [0, 2]) (by kernel_rfl) (by simp) (AllReady.cons rfl (fun K hK => ?o1) (AllReady.cons rfl (fun K hK => ?o2) AllReady.nil))
      case o1 =>
        go_simp
        refine hK _ _ ?_
        clear hK K
        refine wpAny_ready (rs := [2]) (by kernel_rfl) (by simp) (AllReady.cons rfl (fun K hK => ?_) AllReady.nil)
        go_simp
        refine hK _ _ ?_
        clear hK K
        refine wpAny_ready (rs := [4]) (by kernel_rfl) (by simp) (AllReady.cons rfl (fun K hK => ?_) AllReady.nil)
        go_simp
        refine (repeat_any W.heap.size s c hs (W.alloc (.cells #[.bool s] 4)).drew (cellB W) (by simp)).mono ?_
        rintro e w2 ⟨g, rfl, hown2, hb2⟩
        have hW2 : Below W.heap.size W w2 := ((Below.refl _ W).alloc (Nat.le_refl _) _).trans ((below_drew_l hb2).mono (by simp))
        have hv2 : Boxed w2 (w.heap.size + 1) 23 (.slice X L cx) := (hW2.block _ hlt).trans hv
        have hc2 := hv2.cell
        have hX2 : OwnBools w2 w.heap.size X cx ds := hown.below hW2
        clear hb2
        refine hK _ _ ?_
        clear hK K
        refine wpAny_ready (rs := [5]) (by kernel_rfl) (by simp) (AllReady.cons rfl (fun K hK => step_app_bools rfl (.tmp 16) (.tmp 20) rfl _ w.heap.size X cx ds (by rw [HL.out]; rfl) (some ⟨g, 0, none⟩) c (List.replicate c s) (by rw [List.length_replicate]; rfl) hX2 hown2.ints (by rw [HL.out, List.length_replicate]; omega) (by have := hW2.size; omega) (by simp) (fun v w3 hA => ?_)) AllReady.nil)
        obtain ⟨⟨X', c', rfl, hown3⟩, hg3, -⟩ := hA
        obtain ⟨N, HN⟩ : ∃ N, Hid ((ds ++ List.replicate c s).length = N) := ⟨_, rfl⟩
        rw [HN.out]
        have hown4 : w3.ownsRow w.heap.size 4 1 (.slice X' N c') N (bals (ds ++ List.replicate c s)) := by have := hown3; unfold OwnBools at this; rw [HN.out] at this; exact this
        refine hK _ _ ?_
        clear hK K
        rw [HL.out] at hg3
        have hrow2 : w2.ownsRow w.heap.size 4 1 (.slice X L cx) ds.length (bals ds) := by have := hX2; unfold OwnBools at this; rw [HL.out] at this ⊢; exact this
        obtain ⟨hv3, hv4, hr4, hk4, hb4⟩ := behind_append hv2 (by decide) hrow2 hW2 hsz (by omega) hown4 hg3
        have hc3 := hv3.cell
        have hf3 := hv3.frozen
        refine wpAny_ready (rs := [6]) (by kernel_rfl) (by simp) (AllReady.cons rfl (fun K hK => ?_) AllReady.nil)
        go_simp
        refine hK _ _ ?_
        clear hK K
        refine wpAny_done (by kernel_rfl) ?_ _
        exact ⟨hk4.from _, hb4, ⟨_, hv4, by rw [HSN.out, HN.out]; exact hr4, trivial⟩, hB.trans hb4⟩
      case o2 =>
        go_simp
        refine hK _ _ ?_
        clear hK K
        refine wpAny_ready (rs := [0, 4]) (by kernel_rfl) (by simp) (AllReady.cons rfl (fun K hK => ?o21) (AllReady.cons rfl (fun K hK => ?o22) AllReady.nil))
        case o21 =>
          go_simp
          refine hK _ _ ?_
          clear hK K
          refine wpAny_ready (rs := [4]) (by kernel_rfl) (by simp) (AllReady.cons rfl (fun K hK => ?_) AllReady.nil)
          go_simp
          refine (repeat_any W.heap.size s c hs (W.alloc (.cells #[.bool s] 4)).drew (cellB W) (by simp)).mono ?_
          rintro e w2 ⟨g, rfl, hown2, hb2⟩
          have hW2 : Below W.heap.size W w2 := ((Below.refl _ W).alloc (Nat.le_refl _) _).trans ((below_drew_l hb2).mono (by simp))
          have hv2 : Boxed w2 (w.heap.size + 1) 23 (.slice X L cx) := (hW2.block _ hlt).trans hv
          have hc2 := hv2.cell
          have hX2 : OwnBools w2 w.heap.size X cx ds := hown.below hW2
          clear hb2
          refine hK _ _ ?_
          clear hK K
          refine wpAny_ready (rs := [5]) (by kernel_rfl) (by simp) (AllReady.cons rfl (fun K hK => step_app_bools rfl (.tmp 16) (.tmp 20) rfl _ w.heap.size X cx ds (by rw [HL.out]; rfl) (some ⟨g, 0, none⟩) c (List.replicate c s) (by rw [List.length_replicate]; rfl) hX2 hown2.ints (by rw [HL.out, List.length_replicate]; omega) (by have := hW2.size; omega) (by simp) (fun v w3 hA => ?_)) AllReady.nil)
          obtain ⟨⟨X', c', rfl, hown3⟩, hg3, -⟩ := hA
          obtain ⟨N, HN⟩ : ∃ N, Hid ((ds ++ List.replicate c s).length = N) := ⟨_, rfl⟩
          rw [HN.out]
          have hown4 : w3.ownsRow w.heap.size 4 1 (.slice X' N c') N (bals (ds ++ List.replicate c s)) := by have := hown3; unfold OwnBools at this; rw [HN.out] at this; exact this
          refine hK _ _ ?_
          clear hK K
          rw [HL.out] at hg3
          have hrow2 : w2.ownsRow w.heap.size 4 1 (.slice X L cx) ds.length (bals ds) := by have := hX2; unfold OwnBools at this; rw [HL.out] at this ⊢; exact this
          obtain ⟨hv3, hv4, hr4, hk4, hb4⟩ := behind_append hv2 (by decide) hrow2 hW2 hsz (by omega) hown4 hg3
          have hc3 := hv3.cell
          have hf3 := hv3.frozen
          refine wpAny_ready (rs := [6]) (by kernel_rfl) (by simp) (AllReady.cons rfl (fun K hK => ?_) AllReady.nil)
          go_simp
          refine hK _ _ ?_
          clear hK K
          refine wpAny_done (by kernel_rfl) ?_ _
          exact ⟨hk4.from _, hb4, ⟨_, hv4, by rw [HSN.out, HN.out]; exact hr4, trivial⟩, hB.trans hb4⟩
        case o22 =>
          go_simp
          refine (repeat_any W.heap.size s c hs (W.alloc (.cells #[.bool s] 4)).drew (cellB W) (by simp)).mono ?_
          rintro e w2 ⟨g, rfl, hown2, hb2⟩
          have hW2 : Below W.heap.size W w2 := ((Below.refl _ W).alloc (Nat.le_refl _) _).trans ((below_drew_l hb2).mono (by simp))
          have hv2 : Boxed w2 (w.heap.size + 1) 23 (.slice X L cx) := (hW2.block _ hlt).trans hv
          have hc2 := hv2.cell
          have hX2 : OwnBools w2 w.heap.size X cx ds := hown.below hW2
          clear hb2
          refine hK _ _ ?_
          clear hK K
          refine wpAny_ready (rs := [0]) (by kernel_rfl) (by simp) (AllReady.cons rfl (fun K hK => ?_) AllReady.nil)
          go_simp
          refine hK _ _ ?_
          clear hK K
          refine wpAny_ready (rs := [5]) (by kernel_rfl) (by simp) (AllReady.cons rfl (fun K hK => step_app_bools rfl (.tmp 16) (.tmp 20) rfl _ w.heap.size X cx ds (by rw [HL.out]; rfl) (some ⟨g, 0, none⟩) c (List.replicate c s) (by rw [List.length_replicate]; rfl) hX2 hown2.ints (by rw [HL.out, List.length_replicate]; omega) (by have := hW2.size; omega) (by simp) (fun v w3 hA => ?_)) AllReady.nil)
          obtain ⟨⟨X', c', rfl, hown3⟩, hg3, -⟩ := hA
          obtain ⟨N, HN⟩ : ∃ N, Hid ((ds ++ List.replicate c s).length = N) := ⟨_, rfl⟩
          rw [HN.out]
          have hown4 : w3.ownsRow w.heap.size 4 1 (.slice X' N c') N (bals (ds ++ List.replicate c s)) := by have := hown3; unfold OwnBools at this; rw [HN.out] at this; exact this
          refine hK _ _ ?_
          clear hK K
          rw [HL.out] at hg3
          have hrow2 : w2.ownsRow w.heap.size 4 1 (.slice X L cx) ds.length (bals ds) := by have := hX2; unfold OwnBools at this; rw [HL.out] at this ⊢; exact this
          obtain ⟨hv3, hv4, hr4, hk4, hb4⟩ := behind_append hv2 (by decide) hrow2 hW2 hsz (by omega) hown4 hg3
          have hc3 := hv3.cell
          have hf3 := hv3.frozen
          refine wpAny_ready (rs := [6]) (by kernel_rfl) (by simp) (AllReady.cons rfl (fun K hK => ?_) AllReady.nil)
          go_simp
          refine hK _ _ ?_
          clear hK K
          refine wpAny_done (by kernel_rfl) ?_ _
          exact ⟨hk4.from _, hb4, ⟨_, hv4, by rw [HSN.out, HN.out]; exact hr4, trivial⟩, hB.trans hb4⟩
  case done =>
    rintro D ys W hD hys ⟨⟨v, hv, hrow, -⟩, hB⟩ hK
    have hc := hv.cell
    rw [hys, expP_pairsTo, HM.out] at hrow
    obtain ⟨X, cx, rfl⟩ : ∃ X cx, v = .slice X (bitsTo zs m).length cx := by
      rcases hrow.2 with ⟨hv', hn'⟩ | ⟨g, c, cur, hv', _⟩
      · exact ⟨none, 0, by rw [hv', hn']⟩
      · exact ⟨_, _, hv'⟩
    gi_wp2
    refine ⟨by simp, .inl ⟨_, _, rfl, run_takeDeferred hK, ?_⟩⟩
    exact ⟨_, results_tmp2 rfl _ _ _, X, cx, rfl, ownsRow_putObj hrow _ hK rfl, hB.trans (belowK_b (w := w) (Nat.le_refl _) W D _ _ (by simp at hD; omega) hK rfl rfl)⟩
  case stop =>
    rintro D c pre W _ _ h _
    exact h.elim

end

set_option maxHeartbeats 1000000 in
theorem bitsOf_no (A : Option Addr) (cap : Nat) (zs : List Int) (w : World) (hm : zs.length ≤ maxLen) (hg : goodK zs zs.length = false) (hI : IntsAt w w.heap.size A zs) :
    Calls Try.prog 13 #[.slice A zs.length cap] w (RetBits w [] false) := by
  have CV : Hid (Calls Try.prog 31 #[.slice A zs.length cap] w fun e w' => e = .returned (.bool false) ∧ w = w') := by
    have := runsValid_any A cap zs w hI hm
    rw [hg] at this
    exact this
  clear hI hg hm
  obtain ⟨m, HM⟩ : ∃ m, Hid (zs.length = m) := ⟨_, rfl⟩
  rw [HM.out] at CV ⊢
  go_enter Try.func13, Try.ntmps13
  go_wp2_with (go_at_call 31; refine CV.out.mono ?_; rintro e w' ⟨rfl, rfl⟩)
  go_ret2
  exact ⟨_, 0, rfl, OwnBools.new w, (Below.refl _ _).alloc (Nat.le_refl _) _⟩

theorem bitsOf_any (A : Option Addr) (cap : Nat) (zs : List Int) (w : World) (hm : zs.length ≤ maxLen) (hI : IntsAt w w.heap.size A zs) :
    Calls Try.prog 13 #[.slice A zs.length cap] w (RetBits w (bitsOr zs) (goodK zs zs.length)) := by
  cases hg : goodK zs zs.length with
  | true => rw [bitsOr_yes hg]; exact callsIn_wide.1 (bitsOf_in 3 (Nat.le_refl _) A cap zs w hm hg hI)
  | false => rw [bitsOr_no hg]; exact bitsOf_no A cap zs w hm hg hI

end Go.Proofs.Ytmepbogfdpmfaaa
