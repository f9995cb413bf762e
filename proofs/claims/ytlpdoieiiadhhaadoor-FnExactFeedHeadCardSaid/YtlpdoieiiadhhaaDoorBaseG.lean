/- Contract of mergeTrees: the peaks that trees of known sizes merge into. Conditions: the sizes add up to at most 16; the roots are digests. Contracts of the library's Grow at a nil slice and Concat of two slices, at integers: their numbers one behind the other in memory of the call's own. Conditions: the lengths are at most 1000. Contract of TreeGrowthCheck: it reports whether a proof of growth is right. Condition: the proof lies in memory. Contracts of the model's l2Digests, l2Sizes and l2Merge. Conditions: the lists lie in memory; the numbers are valid. Contract of the model's l2Merge: the peaks that trees of known sizes merge into. Conditions: the sizes add up to at most 16; the roots are digests. Contract of the model's TreeGrowthCheck: it reports whether a proof of growth is right. Condition: the proof lies in memory. Contracts of TreeGrowth and of its model: both return the proof of growth, or nothing where the leaves or the number are invalid. Condition: the leaves lie in memory. -/
import Derived.Test.YtlpdoieiiadhhaaDoorBaseF
import Derived.Test.YtlpdoieiiadhhaaDoorBaseA
import Derived.Test.YtlpdoieiiadhhaaDoorBaseB
namespace Go.Proofs.YtlpdoieiiadhhaaDoor
open Go.RowKit
set_option linter.unusedVariables false

def totS : List (Nat × Int) → Nat
  | [] => 0
  | p :: l => p.1 + totS l
def DigsP (l : List (Nat × Int)) : Prop := ∀ p ∈ l, 0 ≤ p.2 ∧ p.2 < 991
theorem pushG_tot : ∀ (st : List (Nat × Int)) (s : Nat) (t : Int), totS (pushG pairZ st s t) = totS st + s := by
  intro st
  induction st with
  | nil => intro s t; show s + 0 = 0 + s; omega
  | cons p st ih =>
    intro s t
    obtain ⟨s', t'⟩ := p
    show totS (if s' = s then pushG pairZ st (s' + s) (pairZ t' t) else (s, t) :: (s', t') :: st) = s' + totS st + s
    by_cases c : s' = s
    · rw [if_pos c, ih]; omega
    · rw [if_neg c]; show s + (s' + totS st) = _; omega
theorem pushG_digs : ∀ (st : List (Nat × Int)) (s : Nat) (t : Int), DigsP st → (0 ≤ t ∧ t < 991) → DigsP (pushG pairZ st s t) := by
  intro st
  induction st with
  | nil => intro s t _ h p hp; have : p = (s, t) := by simpa [pushG] using hp
           subst this; exact h
  | cons p st ih =>
    intro s t hd h
    obtain ⟨s', t'⟩ := p
    show DigsP (if s' = s then pushG pairZ st (s' + s) (pairZ t' t) else (s, t) :: (s', t') :: st)
    by_cases c : s' = s
    · rw [if_pos c]; exact ih _ _ (fun p hp => hd p (List.mem_cons_of_mem _ hp)) (pairZ_bd _ _)
    · rw [if_neg c]
      intro p hp
      rcases List.mem_cons.1 hp with e | e
      · subst e; exact h
      · exact hd p e
def sliceLen : Value → Nat
  | .slice _ n _ => n
  | _ => 0

structure PushAt (w : World) (tgt : List (Nat × Int)) (A : Option Addr) (c : Nat) (gs : List Nat) (st : List (Nat × Int)) (g : Nat) (r : Int) (s : Nat) (w' : World) : Prop where
  own : OwnPtrs w' w.heap.size A c gs
  below : Below w.heap.size w w'
  nodes : NodesAt w' gs st.reverse
  node : ∃ x y, Node w' g r s x y
  push : pushG pairZ st s r = tgt
  dig : 0 ≤ r ∧ r < 991
  digs : DigsP st
  tot : totS st + s ≤ 16
  short : st.length ≤ 40
theorem PushAt.drewN {w : World} {tgt : List (Nat × Int)} {A : Option Addr} {c : Nat} {gs : List Nat} {st : List (Nat × Int)} {g : Nat} {r : Int} {s : Nat} {w' : World} (h : PushAt w tgt A c gs st g r s w') (n : Nat) : PushAt w tgt A c gs st g r s (w'.drewN n) :=
  ⟨h.own, below_drewN h.below n, h.nodes.kept (Kept.drewN _ n), h.node, h.push, h.dig, h.digs, h.tot, h.short⟩

structure MergeAt (w : World) (ts : List (Nat × Int)) (A : Option Addr) (c : Nat) (gs : List Nat) (st : List (Nat × Int)) (k : Nat) (w' : World) : Prop where
  own : OwnPtrs w' w.heap.size A c gs
  below : Below w.heap.size w w'
  nodes : NodesAt w' gs st.reverse
  rest : mergeGo pairZ st (ts.drop k) = mergeGo pairZ [] ts
  digs : DigsP st
  tot : totS st + totS (ts.drop k) ≤ 16
  pos : st.length ≤ k

theorem pushG_length : ∀ (st : List (Nat × Int)) (s : Nat) (t : Int), (pushG pairZ st s t).length ≤ st.length + 1 := by
  intro st
  induction st with
  | nil => intro s t; exact Nat.le_refl _
  | cons p st ih =>
    intro s t
    obtain ⟨s', t'⟩ := p
    show (if s' = s then pushG pairZ st (s' + s) (pairZ t' t) else (s, t) :: (s', t') :: st).length ≤ _
    by_cases c : s' = s
    · rw [if_pos c]; have := ih (s' + s) (pairZ t' t); simp; omega
    · rw [if_neg c]; simp
theorem own_short {w : World} {gs : List Nat} {st : List (Nat × Int)} (h : NodesAt w gs st.reverse) : gs.length = st.length := by rw [h.same, List.length_reverse]

set_option maxHeartbeats 4000000 in
set_option maxRecDepth 100000 in
theorem merge_any (B : Option Addr) (cb : Nat) (hs : List Nat) (ts : List (Nat × Int)) (w : World) (hP : PtrsAt w w.heap.size B hs) (hN : NodesAt w hs ts) (hd : DigsP ts) (ht : totS ts ≤ 16) (hm : ts.length ≤ 40) :
    Calls Tryd.prog 69 #[.slice B hs.length cb] w (RetNodes w (mergeGo pairZ [] ts).reverse) := by
  have HP := Lib.hid hP
  have HN := Lib.hid hN
  have HD := Lib.hid hd
  obtain ⟨n, HL⟩ : ∃ n, Hid (hs.length = n) := ⟨_, rfl⟩
  have HT : Hid (ts.length = n) := by show _ = _; rw [← hN.same]; exact HL.out
  rw [HT.out] at hm
  rw [HL.out]
  clear hP hN hd
  go_enter Tryd.func69, Tryd.ntmps69
  go_wp2
  go_loopw [3, 8] (fun x ix w' => ∃ (A : Option Addr) (c : Nat) (gs : List Nat) (st : List (Nat × Int)) (k : Nat), k ≤ n ∧ x = .slice A gs.length c ∧ ix = .int .i64 k ∧ Hid (MergeAt w ts A c gs st k w')) (fun _ ix _ => n - (intOf ix).toNat)
  case atStart =>
    refine ⟨none, 0, [], [], 0, by omega, rfl, rfl, ?_⟩
    exact ⟨World.ownsRow_nil _ _ _ _, Below.refl _ _, NodesAt.nil _, rfl, (fun p hp => by cases hp), (by show 0 + totS ts ≤ 16; omega), by simp⟩
  case round =>
    obtain ⟨A, c, gs, st, k, hk, rfl, rfl, HM⟩ := hrel
    by_cases hlt : k < n
    · have hkh : k < hs.length := by rw [HL.out]; exact hlt
      have hkt : k < ts.length := by rw [HT.out]; exact hlt
      obtain ⟨b, o, rfl, hb, hcell⟩ := (HP.out.below HM.out.below (Nat.le_refl _)) (by omega)
      have hck := hcell k hkh
      obtain ⟨g, HG⟩ : ∃ g, Hid (gth hs k = g) := ⟨_, rfl⟩
      rw [HG.out] at hck
      obtain ⟨q, HQ⟩ : ∃ q : Nat × Int, Hid (ts.getD k (0, 0) = q) := ⟨_, rfl⟩
      have hnode := HN.out.node k hkh
      rw [HG.out, HQ.out] at hnode
      have hdrop : ts.drop k = q :: ts.drop (k + 1) := by
        rw [List.drop_eq_getElem_cons hkt]
        have := HQ.out
        rw [List.getD_eq_getElem?_getD, List.getElem?_eq_getElem hkt] at this
        simp at this
        rw [this]
      have hqm : q ∈ ts := by rw [← List.take_append_drop k ts, hdrop]; simp
      have HPA : Hid (PushAt w (pushG pairZ st q.1 q.2) A c gs st g q.2 q.1 wr) := by
        have hM := HM.out
        obtain ⟨x, y, hn⟩ := hnode
        have ht := hM.tot
        rw [hdrop] at ht
        have ht2 : totS (q :: ts.drop (k + 1)) = q.1 + totS (ts.drop (k + 1)) := rfl
        exact ⟨hM.own, hM.below, hM.nodes, ⟨x, y, Kept.of_below hM.below _ _ _ _ _ hn⟩, rfl, HD.out q hqm, hM.digs, by omega, by have := hM.pos; omega⟩
      have HDR := Lib.hid hdrop
      clear hcell hnode hdrop hkh hkt hqm
      go_wp2
      go_loopw [3, 5] (fun x y w' => ∃ (A' : Option Addr) (c' : Nat) (gs' : List Nat) (st' : List (Nat × Int)) (g' : Nat) (r' : Int) (s' : Nat), x = .slice A' gs'.length c' ∧ y = .pointer (some ⟨g', 0, none⟩) ∧ Hid (PushAt w (pushG pairZ st q.1 q.2) A' c' gs' st' g' r' s' w')) (fun x _ _ => sliceLen x)
      case atStart => exact ⟨A, c, gs, st, g, q.2, q.1, rfl, rfl, HPA⟩
      case round =>
        obtain ⟨A', c', gs', st', g', r', s', rfl, rfl, HPP⟩ := hrel
        have hgl : gs'.length = st'.length := own_short HPP.out.nodes
        have hst' : st'.length ≤ 40 := HPP.out.short
        cases st' with
        | nil =>
          have HLG : Hid (gs'.length = 0) := hgl
          rw [HLG.out]
          have HTG : Hid (pushG pairZ st q.1 q.2 = [(s', r')]) := by show _ = _; rw [← HPP.out.push]; rfl
          clear hgl hst'
          go_wp2_with fail
          go_quiet (fail)
          have HPW := Lib.hid (HPP.out.drewN nq)
          obtain ⟨W, HW⟩ : ∃ W, Hid (wr.drewN nq = W) := ⟨_, rfl⟩
          rw [HW.out] at HPW ⊢
          have hb0 : w.heap.size ≤ W.heap.size := HPW.out.below.size
          go_wp2_with (at_builtin; refine wpList_app_ptrs rfl (.tmp 44) (.tmp 46) rfl _ w.heap.size A' c' gs' (by rw [HLG.out]; rfl) _ _ [g'] rfl (HPW.out.own.alloc _) (one_newP _ _) (by rw [HLG.out]; simp <;> omega) (by simp; omega) (by simp) ?_; intro v w3 hA; have HKA := Lib.hid (Kept.appended (n := 0) (HPW.out.own.alloc _) hA); obtain ⟨⟨A3, c3, rfl, hown3⟩, hg3, hb3⟩ := hA; have HO3 := Lib.hid hown3; have HB3 := Lib.hid hb3; clear hown3 hg3 hb3)
          go_wp2
          go_roundw
          case rel =>
            have hP := HPW.out
            have hM := HM.out
            refine ⟨A3, c3, gs' ++ [g'], pushG pairZ st q.1 q.2, k + 1, by omega, by simp, by go_num, ?_⟩
            have hkept : Kept W w3 := (Kept.alloc W _).trans HKA.out
            obtain ⟨x, y, hnd⟩ := hP.node
            have htot : totS (ts.drop k) = q.1 + totS (ts.drop (k + 1)) := by rw [HDR.out]; rfl
            refine ⟨HO3.out, (hP.below.alloc (by omega) _).trans HB3.out, ?_, ?_, ?_, ?_, ?_⟩
            · rw [HTG.out, List.reverse_cons]
              exact (hP.nodes.kept hkept).snoc (hkept _ _ _ _ _ hnd)
            · rw [← hM.rest, HDR.out]; rfl
            · exact pushG_digs _ _ _ hM.digs (HD.out q (by rw [← List.take_append_drop k ts, HDR.out]; simp))
            · rw [pushG_tot]; have := hM.tot; omega
            · have h1 := own_short hP.nodes
              have h2 := hM.pos
              have h3 : (pushG pairZ st q.1 q.2).length ≤ st.length + 1 := pushG_length _ _ _
              omega
          case measure => simp [intOf]; omega
        | cons p st2 =>
          obtain ⟨s2, r2⟩ := p
          obtain ⟨L, HLG⟩ : ∃ L, Hid (gs'.length = L) := ⟨_, rfl⟩
          have hL : L = st2.length + 1 := by rw [← HLG.out, hgl]; rfl
          have hL40 : L ≤ 40 := by rw [hL]; simpa using hst'
          have hL1 : 1 ≤ L := by omega
          obtain ⟨ga, hA'⟩ : ∃ ga, A' = some ⟨ga, 0, none⟩ := by
            obtain ⟨gb, ob, e, _, _⟩ := HPP.out.own.ints (by rw [HLG.out]; omega)
            rcases HPP.out.own.2 with ⟨hv, _⟩ | ⟨g0, c0, cur, hv, _⟩
            · injection hv with hA _ _; rw [hA] at e; cases e
            · injection hv with hA _ _; exact ⟨g0, hA⟩
          subst hA'
          have htop : wr.cell? ⟨ga, L - 1, none⟩ = some (.pointer (some ⟨gth gs' (L - 1), 0, none⟩)) := by
            have h1 := (HPP.out.own.ints.lt (by rw [HLG.out]; omega)).2 (L - 1) (by rw [HLG.out]; omega)
            rw [Nat.zero_add] at h1
            exact h1
          obtain ⟨g2, HG2⟩ : ∃ g2, Hid (gth gs' (L - 1) = g2) := ⟨_, rfl⟩
          rw [HG2.out] at htop
          have hn2 : ∃ x y, Node wr g2 r2 s2 x y := by
            have h1 := HPP.out.nodes.node (L - 1) (by rw [HLG.out]; omega)
            rw [HG2.out] at h1
            have h2 : (((s2, r2) :: st2).reverse).getD (L - 1) (0, 0) = (s2, r2) := by
              rw [List.reverse_cons, getD_snoc, if_neg (by rw [List.length_reverse]; omega), if_pos (by rw [List.length_reverse]; omega)]
            rw [h2] at h1
            exact h1
          obtain ⟨x2, y2, hn2⟩ := hn2
          obtain ⟨x1, y1, hn1⟩ := HPP.out.node
          have d1 := hn2.c1
          have e1 := hn1.c1
          have HN2 := Lib.hid hn2
          have HN1 := Lib.hid hn1
          have htt := HPP.out.tot
          have htt2 : totS ((s2, r2) :: st2) = s2 + totS st2 := rfl
          have hs2 : s2 ≤ 16 := by omega
          have hs1 : s' ≤ 16 := by omega
          clear hn2 hn1 htt htt2 hgl hst'
          rw [HLG.out]
          have HL' := Lib.hid hL
          clear hL
          have hcb := HPP.out.own.le
          rw [HLG.out] at hcb
          have hLc : L ≤ c' := hcb.1
          have hc63 := hcb.2
          unfold maxLen at hc63
          clear hcb
          by_cases heq : s2 = s'
          · have hbb : ((s2 : Int) == (s' : Int)) = true := by rw [beq_iff_eq]; omega
            have HEQ := Lib.hid heq
            have HDP := HPP.out.digs (s2, r2) (by simp)
            obtain ⟨hr20, hr21⟩ := HDP
            obtain ⟨hr10, hr11⟩ := HPP.out.dig
            clear heq
            have wl0 : IntKind.i64.wrap ((L : Int) - 1) = (L : Int) - 1 := IntWalk.i64_in _ (by omega)
            have wl1 : (0 : Int) ≤ (L : Int) - 1 := by omega
            have wl2 : ((L : Int) - 1).toNat = L - 1 := by omega
            have wl3 : (L : Int) - 1 < (L : Int) := by omega
            have wl4 : decide (0 < L) = true := by simp; omega
            have wl5 : 0 < L := by omega
            have wl6 : decide ((0 : Int) < (L : Int)) = true := by simp; omega
            go_wp2_with fail
            go_quiet (fail)
            clear wl0 wl2 wl4 wl5 wl6
            go_wp2_with fail
            refine (pairT_any g2 g' r2 s2 r' s' x2 y2 x1 y1 (wr.drewN nq) (Kept.drewN wr nq _ _ _ _ _ HN2.out) (Kept.drewN wr nq _ _ _ _ _ HN1.out) hr20 hr21 hr10 hr11 (by omega) (by omega) (by omega) (by omega)).mono ?_
            rintro e W3 ⟨g3, rfl, hn3, hg3, hb3⟩
            have HN3 := Lib.hid hn3
            have HB3 := Lib.hid hb3
            clear hn3 hb3 hg3
            have hLi : (L : Int) - 1 ≤ (c' : Int) := by omega
            go_wp2
            go_roundw
            case rel =>
              have hP := HPP.out.drewN nq
              have hb3' : Below wr.heap.size (wr.drewN nq) W3 := HB3.out
              have hk3 : Kept (wr.drewN nq) W3 := Kept.of_below HB3.out
              have hLe := HL'.out
              refine ⟨some ⟨ga, 0, none⟩, c', gs'.take (L - 1), st2, g3, pairZ r2 r', s2 + s', ?_, rfl, ?_⟩
              · rw [List.length_take, HLG.out]; simp <;> omega
              · refine ⟨(hP.own.below HB3.out).cut (L - 1) (by rw [HLG.out]; omega), hP.below.trans (hb3'.mono HPP.out.below.size), ?_, ⟨_, _, by have := HN3.out; rw [show ((s2 + s' : Nat) : Int) = (s2 : Int) + (s' : Int) from by omega]; exact this⟩, ?_, pairZ_bd _ _, (fun p hp => hP.digs p (List.mem_cons_of_mem _ hp)), ?_, ?_⟩
                · have h1 := (hP.nodes.kept hk3).cut (L - 1)
                  have h2 : (st2.reverse ++ [(s2, r2)]).take (L - 1) = st2.reverse := by
                    rw [List.take_append_of_le_length (by rw [List.length_reverse]; omega)]
                    exact List.take_of_length_le (by rw [List.length_reverse]; omega)
                  rw [List.reverse_cons, h2] at h1
                  exact h1
                · rw [← hP.push, ← HEQ.out]
                  show _ = (if s2 = s2 then _ else _)
                  rw [if_pos rfl]
                · have h1 := hP.tot
                  have h2 : totS ((s2, r2) :: st2) = s2 + totS st2 := rfl
                  omega
                · have h1 := hP.short; simp at h1; omega
            case measure => simp [sliceLen]; omega
          · have hbb : ((s2 : Int) == (s' : Int)) = false := by rw [beq_eq_false_iff_ne]; omega
            have HTG : Hid (pushG pairZ st q.1 q.2 = (s', r') :: (s2, r2) :: st2) := by
              show _ = _
              rw [← HPP.out.push]
              show (if s2 = s' then _ else _) = _
              rw [if_neg heq]
            clear heq
            have wl0 : IntKind.i64.wrap ((L : Int) - 1) = (L : Int) - 1 := IntWalk.i64_in _ (by omega)
            have wl1 : (0 : Int) ≤ (L : Int) - 1 := by omega
            have wl2 : ((L : Int) - 1).toNat = L - 1 := by omega
            have wl3 : (L : Int) - 1 < (L : Int) := by omega
            have wl4 : decide (0 < L) = true := by simp; omega
            have wl5 : 0 < L := by omega
            have wl6 : decide ((0 : Int) < (L : Int)) = true := by simp; omega
            go_wp2_with fail
            go_quiet (fail)
            clear wl0 wl1 wl2 wl3 wl4 wl5 wl6
            have HPW := Lib.hid (HPP.out.drewN nq)
            obtain ⟨W, HW⟩ : ∃ W, Hid (wr.drewN nq = W) := ⟨_, rfl⟩
            rw [HW.out] at HPW ⊢
            have hb0 : w.heap.size ≤ W.heap.size := HPW.out.below.size
            go_wp2_with (at_builtin; refine wpList_app_ptrs rfl (.tmp 44) (.tmp 46) rfl _ w.heap.size (some ⟨ga, 0, none⟩) c' gs' (by rw [HLG.out]; rfl) _ _ [g'] rfl (HPW.out.own.alloc _) (one_newP _ _) (by rw [HLG.out]; simp <;> omega) (by simp; omega) (by simp) ?_; intro v w3 hA; have HKA := Lib.hid (Kept.appended (n := 0) (HPW.out.own.alloc _) hA); obtain ⟨⟨A3, c3, rfl, hown3⟩, hg3, hb3⟩ := hA; have HO3 := Lib.hid hown3; have HB3 := Lib.hid hb3; clear hown3 hg3 hb3)
            go_wp2
            go_roundw
            case rel =>
              have hP := HPW.out
              have hM := HM.out
              refine ⟨A3, c3, gs' ++ [g'], pushG pairZ st q.1 q.2, k + 1, by omega, by simp, by go_num, ?_⟩
              have hkept : Kept W w3 := (Kept.alloc W _).trans HKA.out
              obtain ⟨x, y, hnd⟩ := hP.node
              have htot : totS (ts.drop k) = q.1 + totS (ts.drop (k + 1)) := by rw [HDR.out]; rfl
              refine ⟨HO3.out, (hP.below.alloc (by omega) _).trans HB3.out, ?_, ?_, ?_, ?_, ?_⟩
              · rw [HTG.out, List.reverse_cons]
                exact (hP.nodes.kept hkept).snoc (hkept _ _ _ _ _ hnd)
              · rw [← hM.rest, HDR.out]; rfl
              · exact pushG_digs _ _ _ hM.digs (HD.out q (by rw [← List.take_append_drop k ts, HDR.out]; simp))
              · rw [pushG_tot]; have := hM.tot; omega
              · have h1 := own_short hP.nodes
                have h2 := hM.pos
                have h3 : (pushG pairZ st q.1 q.2).length ≤ st.length + 1 := pushG_length _ _ _
                omega
            case measure => simp [intOf]; omega
    · have hkn : k = n := by omega
      subst hkn
      have hM := HM.out
      have hr := hM.rest
      rw [List.drop_eq_nil_of_le (by rw [HT.out]; omega)] at hr
      have HRR : Hid (mergeGo pairZ [] ts = st) := by show _ = _; rw [← hr]; cases st <;> rfl
      clear hM hr
      go_wp2
      go_ret
      refine ⟨A, c, gs, rfl, HM.out.own, ?_, HM.out.below⟩
      rw [HRR.out]
      exact HM.out.nodes

end Go.Proofs.YtlpdoieiiadhhaaDoor

namespace Go.Proofs.YtlpdoieiiadhhaaDoor
open Go.RowKit
set_option linter.unusedVariables false

theorem OwnInts.cut {w : World} {base g c : Nat} {zs : List Int} (h : OwnInts w base (some ⟨g, 0, none⟩) c zs) (k : Nat) (hk : k ≤ zs.length) : OwnInts w base (some ⟨g, 0, none⟩) c (zs.take k) := by
  have hl : (zs.take k).length = k := by rw [List.length_take]; omega
  rcases h.2 with ⟨hv, _⟩ | ⟨g', c', cur, hv, hb, hg, hn, hm, hs, ht⟩
  · injection hv with hA _ _; cases hA
  · injection hv with hA _ hc
    injection hA with hA
    injection hA with hA _ _
    subst hA hc
    refine ⟨by rw [vals_length]; omega, .inr ⟨g, c, cur, rfl, hb, hg, by omega, hm, hs, ?_⟩⟩
    rw [hl, Nat.mul_one]
    rw [Nat.mul_one] at ht
    have e : vals (zs.take k) = (vals zs).take k := by unfold vals; rw [List.map_take]
    rw [e, ← ht, List.take_take, Nat.min_eq_left hk]

set_option maxHeartbeats 1000000 in
theorem grow_nil (n : Nat) (w : World) (hn : n ≤ 1000) :
    Calls Tryd.prog 102 #[.slice none 0 0, .int .i64 (n : Int)] w (RetInts w []) := by
  by_cases h0 : n = 0
  · subst h0
    go_enter Tryd.func102, Tryd.ntmps102
    go_wp2
    go_ret
    exact ⟨none, 0, rfl, World.ownsRow_nil _ _ _ _, Below.refl _ _⟩
  · have hn1 : ¬ ((n : Int) < 0) := by omega
    have hn2 : 0 < n := by omega
    have hn3 : (0 : Int) < (n : Int) := by omega
    have hnil : OwnInts w w.heap.size none 0 [] := World.ownsRow_nil _ _ _ _
    have HNIL := Lib.hid hnil
    clear hnil h0
    go_enter Tryd.func102, Tryd.ntmps102
    go_wp2_with (at_builtin; refine wpList_app_zeros rfl (.tmp 20) (.tmp 21) rfl _ w.heap.size none 0 [] rfl n hn2 rfl HNIL.out (by simp; omega) (Nat.le_refl _) ?_; intro v w3 hA; rw [List.nil_append] at hA; obtain ⟨⟨A3, c3, rfl, hown3⟩, hg3, hb3⟩ := hA; obtain ⟨g, hA3⟩ : ∃ g, A3 = some ⟨g, 0, none⟩ := (by obtain ⟨g, c, hv, _, _⟩ := World.ownsRow.form hown3 (by rw [zerosZ_length]; exact hn2); injection hv with hA _ _; exact ⟨g, hA⟩); subst hA3; have HO3 := Lib.hid (hown3.cut 0 (by omega)); have HB3 := Lib.hid hb3; rw [zerosZ_length]; clear hown3 hg3 hb3)
    go_ret
    exact ⟨_, c3, rfl, HO3.out, HB3.out⟩

set_option maxHeartbeats 2000000 in
theorem concat_two (A1 : Option Addr) (c1 : Nat) (xs : List Int) (A2 : Option Addr) (c2 : Nat) (ys : List Int) (g : Nat) (w : World) (h1 : IntsAt w w.heap.size A1 xs) (h2 : IntsAt w w.heap.size A2 ys) (hz1 : A1 = none → c1 = 0) (hz2 : A2 = none → c2 = 0) (hm1 : xs.length ≤ 400) (hm2 : ys.length ≤ 400)
    (hg0 : w.cell? ⟨g, 0, none⟩ = some (.slice A1 xs.length c1)) (hg1 : w.cell? ⟨g, 1, none⟩ = some (.slice A2 ys.length c2)) :
    Calls Tryd.prog 66 #[.slice (some ⟨g, 0, none⟩) 2 2] w (RetInts w (xs ++ ys)) := by
  have H1 := Lib.hid h1
  have H2 := Lib.hid h2
  have HZ1 := Lib.hid hz1
  have HZ2 := Lib.hid hz2
  have hgl := World.block_lt_of_cell? w _ hg0
  obtain ⟨n1, HN1⟩ : ∃ n, Hid (xs.length = n) := ⟨_, rfl⟩
  obtain ⟨n2, HN2⟩ : ∃ n, Hid (ys.length = n) := ⟨_, rfl⟩
  rw [HN1.out] at hm1 hg0
  rw [HN2.out] at hm2 hg1
  have HG0 := Lib.hid hg0
  have HG1 := Lib.hid hg1
  clear h1 h2 hz1 hz2
  go_enter Tryd.func66, Tryd.ntmps66
  go_wp2
  go_loop [3, 11] (fun x ix => ∃ k t : Nat, k ≤ 2 ∧ t ≤ 800 ∧ x = .int .i64 t ∧ ix = .int .i64 k ∧ Hid ((k = 0 → t = 0) ∧ (k = 1 → t = n1) ∧ (k = 2 → t = n1 + n2))) (fun _ ix => 2 - (intOf ix).toNat)
  case atStart => exact ⟨0, 0, by omega, by omega, rfl, rfl, (⟨fun _ => rfl, fun h => by omega, fun h => by omega⟩ : _ ∧ _ ∧ _)⟩
  case round =>
    obtain ⟨k, t, hk, ht, rfl, rfl, HK⟩ := hrel
    have hk3 : k = 0 ∨ k = 1 ∨ k = 2 := by omega
    rcases hk3 with rfl | rfl | rfl
    · have ht0 := HK.out.1 rfl
      subst ht0
      go_wp2
      go_round
      case rel => exact ⟨1, n1, by omega, by omega, by go_num, by go_num, (⟨fun h => by omega, fun _ => rfl, fun h => by omega⟩ : _ ∧ _ ∧ _)⟩
      case measure => simp [intOf]
    · have ht0 := HK.out.2.1 rfl
      subst ht0
      go_wp2
      go_round
      case rel => exact ⟨2, t + n2, by omega, by omega, by go_num, by go_num, (⟨fun h => by omega, fun h => by omega, fun _ => rfl⟩ : _ ∧ _ ∧ _)⟩
      case measure => simp [intOf]
    · have ht0 := HK.out.2.2 rfl
      subst ht0
      clear hg0 hg1
      go_wp2_with fail
      rw [show (n1 : Int) + (n2 : Int) = ((n1 + n2 : Nat) : Int) from by omega]
      refine (grow_nil (n1 + n2) _ (by omega)).mono ?_
      rintro e w1 ⟨A3, c3, rfl, hown3, hb3⟩
      have HO3 := Lib.hid hown3
      have HB3 := Lib.hid hb3
      clear hown3 hb3
      go_wp2
      go_loopw [6, 27] (fun x ix w' => ∃ (A : Option Addr) (c : Nat) (zs : List Int) (k : Nat), k ≤ 2 ∧ x = .slice A zs.length c ∧ ix = .int .i64 k ∧ Hid (OwnInts w' w.heap.size A c zs) ∧ Hid (Below w.heap.size w w') ∧ Hid (zs = if k = 0 then [] else if k = 1 then xs else xs ++ ys)) (fun _ ix _ => 2 - (intOf ix).toNat)
      case atStart => exact ⟨A3, c3, [], 0, by omega, rfl, rfl, HO3, HB3, rfl⟩
      case round =>
        obtain ⟨A, c, zs, k, hk, rfl, rfl, HO, HB, HZ⟩ := hrel
        have hz : w.heap.size ≤ wr.heap.size := HB.out.size
        have hk3 : k = 0 ∨ k = 1 ∨ k = 2 := by omega
        rcases hk3 with rfl | rfl | rfl
        · have hz0 : zs = [] := HZ.out
          subst hz0
          have hg0 : wr.cell? ⟨g, 0, none⟩ = some (.slice A1 n1 c1) := (HB.out.cell (p := ⟨g, 0, none⟩) hgl).trans HG0.out
          go_wp2_with (at_builtin; refine wpList_app_ints rfl (.tmp 31) (.tmp 32) rfl _ w.heap.size A c [] rfl A1 c1 xs (by rw [HN1.out]; rfl) HO.out (H1.out.belowS HB.out) (by rw [HN1.out]; simp; omega) hz HZ1.out ?_; intro v w3 hA; rw [List.nil_append] at hA; obtain ⟨⟨A4, c4, rfl, hown4⟩, hg4, hb4⟩ := hA; have HO4 := Lib.hid hown4; have HB4 : Hid (Below w.heap.size w w3) := HB.out.trans hb4; clear hown4 hg4 hb4)
          go_wp2
          go_roundw
          case rel => exact ⟨A4, c4, xs, 1, by omega, rfl, by go_num, HO4, HB4, rfl⟩
          case measure => simp [intOf]
        · have hz0 : zs = xs := HZ.out
          subst hz0
          have hg1 : wr.cell? ⟨g, 1, none⟩ = some (.slice A2 n2 c2) := (HB.out.cell (p := ⟨g, 1, none⟩) hgl).trans HG1.out
          obtain ⟨us, HU⟩ : ∃ us, Hid (zs ++ ys = us) := ⟨_, rfl⟩
          go_wp2_with (at_builtin; refine wpList_app_ints rfl (.tmp 31) (.tmp 32) rfl _ w.heap.size A c zs rfl A2 c2 ys (by rw [HN2.out]; rfl) HO.out (H2.out.belowS HB.out) (by rw [HN1.out, HN2.out]; omega) hz HZ2.out ?_; intro v w3 hA; rw [HU.out] at hA; obtain ⟨⟨A4, c4, rfl, hown4⟩, hg4, hb4⟩ := hA; have HO4 := Lib.hid hown4; have HB4 : Hid (Below w.heap.size w w3) := HB.out.trans hb4; clear hown4 hg4 hb4)
          go_wp2
          go_roundw
          case rel => exact ⟨A4, c4, us, 2, by omega, rfl, by go_num, HO4, HB4, (HU.out.symm : us = zs ++ ys)⟩
          case measure => simp [intOf]
        · have hz0 : zs = xs ++ ys := HZ.out
          have HZZ := Lib.hid hz0
          clear hz0
          go_wp2
          go_ret
          refine ⟨A, c, ?_, ?_, HB.out⟩
          · rw [← HZZ.out]; rfl
          · rw [← HZZ.out]; exact HO.out

end Go.Proofs.YtlpdoieiiadhhaaDoor

namespace Go.Proofs.YtlpdoieiiadhhaaDoor
open Go.RowKit
set_option linter.unusedVariables false

def growB (m n : Nat) (old digest : Int) (proof : List Int) : Bool :=
  decide (proof.length = (growSizes m n).length) && (decide (foldZ m (proof.take (sizesOf 0 m).length) = old) && decide (foldZ n (mergeZ (growSizes m n) proof) = digest))
def growOkB (m old n digest : Int) (proof : List Int) : Bool :=
  decide (0 ≤ n ∧ n ≤ 16 ∧ 0 ≤ m ∧ m ≤ n) && (digB proof && growB m.toNat n.toNat old digest proof)
theorem growOkB_yes {m n : Nat} {old digest : Int} {proof : List Int} (hn : n ≤ 16) (hm : m ≤ n) (hd : digB proof = true) : growOkB m old n digest proof = growB m n old digest proof := by
  unfold growOkB
  rw [hd, decide_eq_true (show (0 : Int) ≤ n ∧ (n : Int) ≤ 16 ∧ (0 : Int) ≤ m ∧ (m : Int) ≤ n from ⟨by omega, by omega, by omega, by omega⟩)]
  rfl
theorem growOkB_no {m n : Int} {old digest : Int} {proof : List Int} (h : ¬ (0 ≤ n ∧ n ≤ 16 ∧ 0 ≤ m ∧ m ≤ n)) : growOkB m old n digest proof = false := by
  unfold growOkB; rw [decide_eq_false h]; rfl
theorem growOkB_nod {m n : Int} {old digest : Int} {proof : List Int} (h : digB proof = false) : growOkB m old n digest proof = false := by
  unfold growOkB; rw [h]; simp
def sumN : List Nat → Nat
  | [] => 0
  | a :: l => a + sumN l
theorem look_sum : allMN (fun m n => decide (sumN (growSizes m n) = n)) = true := by decide +kernel
theorem tot_zip : ∀ (ss : List Nat) (rs : List Int), rs.length = ss.length → totS (ss.zip rs) = sumN ss := by
  intro ss
  induction ss with
  | nil => intro rs h; rfl
  | cons s ss ih =>
    intro rs h
    cases rs with
    | nil => simp at h
    | cons r rs => show s + totS (ss.zip rs) = s + sumN ss; rw [ih rs (by simpa using h)]
theorem map_zip : ∀ (ss : List Nat) (rs : List Int), rs.length = ss.length → (ss.zip rs).map (·.2) = rs := by
  intro ss
  induction ss with
  | nil => intro rs h; have : rs = [] := List.eq_nil_of_length_eq_zero (by simpa using h)
           subst this; rfl
  | cons s ss ih =>
    intro rs h
    cases rs with
    | nil => simp at h
    | cons r rs => show r :: (ss.zip rs).map (·.2) = r :: rs; rw [ih rs (by simpa using h)]
theorem digs_zip (ss : List Nat) (rs : List Int) (h : Digs rs) : DigsP (ss.zip rs) := fun p hp => h p.2 (List.of_mem_zip (a := p.1) (b := p.2) hp).2
theorem mergeGo_digs : ∀ (ts st : List (Nat × Int)), DigsP st → DigsP ts → DigsP (mergeGo pairZ st ts) := by
  intro ts
  induction ts with
  | nil => intro st hs _; cases st <;> exact hs
  | cons p ts ih =>
    intro st hs ht
    obtain ⟨s, t⟩ := p
    show DigsP (mergeGo pairZ (pushG pairZ st s t) ts)
    exact ih _ (pushG_digs st s t hs (ht (s, t) (by simp))) (fun q hq => ht q (List.mem_cons_of_mem _ hq))
theorem mergeGo_length : ∀ (ts st : List (Nat × Int)), (mergeGo pairZ st ts).length ≤ st.length + ts.length := by
  intro ts
  induction ts with
  | nil => intro st; cases st <;> simp [mergeGo]
  | cons p ts ih =>
    intro st
    obtain ⟨s, t⟩ := p
    show (mergeGo pairZ (pushG pairZ st s t) ts).length ≤ _
    have h1 := ih (pushG pairZ st s t)
    have h2 := pushG_length st s t
    simp
    omega
theorem natsZ_append (a b : List Nat) : natsZ (a ++ b) = natsZ a ++ natsZ b := List.map_append
theorem mergeZ_digs (ss : List Nat) (rs : List Int) (h : Digs rs) : Digs (mergeZ ss rs) := by
  intro x hx
  unfold mergeZ mergeG at hx
  rw [List.mem_reverse] at hx
  obtain ⟨p, hp, rfl⟩ := List.mem_map.1 hx
  exact mergeGo_digs _ _ (fun q hq => by cases hq) (digs_zip ss rs h) p hp

set_option maxHeartbeats 4000000 in
set_option maxRecDepth 100000 in
theorem gcheck_yes (m n : Nat) (old digest : Int) (A : Option Addr) (cap : Nat) (zs : List Int) (w : World) (hI : IntsAt w w.heap.size A zs) (hcap : zs.length ≤ cap) (hmax : cap ≤ maxLen) (hn : n ≤ 16) (hm : m ≤ n) (hd : digB zs = true) :
    Calls Tryd.prog 20 #[.int .i64 (m : Int), .int .i64 old, .int .i64 (n : Int), .int .i64 digest, .slice A zs.length cap] w fun e w' => e = .returned (.bool (growB m n old digest zs)) ∧ Below w.heap.size w w' := by
  have HI := Lib.hid hI
  have HM := Lib.hid (Nat.le_trans hcap hmax)
  have HD := Lib.hid hd
  have HDD := Lib.hid (digB_yes hd)
  have hzl : zs.length ≤ 9223372036854775807 := by have := Nat.le_trans hcap hmax; unfold maxLen at this; omega
  have hl9 := growSizes_le hn hm
  obtain ⟨S1, HS1⟩ : ∃ l, Hid (sizesOf 0 m = l) := ⟨_, rfl⟩
  obtain ⟨S2, HS2⟩ : ∃ l, Hid (sizesOf m n = l) := ⟨_, rfl⟩
  obtain ⟨SS, HSS⟩ : ∃ l, Hid (S1 ++ S2 = l) := ⟨_, rfl⟩
  have HGS : Hid (growSizes m n = SS) := by show _ = _; unfold growSizes; rw [HS1.out, HS2.out, HSS.out]
  rw [HGS.out] at hl9
  have hl1 : S1.length ≤ SS.length := by rw [← HSS.out, List.length_append]; omega
  have hl2 : S2.length ≤ SS.length := by rw [← HSS.out, List.length_append]; omega
  have hi1 : ¬ ((n : Int) < 0) := by omega
  have hi2 : ¬ ((16 : Int) < (n : Int)) := by omega
  have hi3 : ¬ ((m : Int) < 0) := by omega
  have hi4 : ¬ ((n : Int) < (m : Int)) := by omega
  clear hI hcap hmax hd
  go_enter Tryd.func20, Tryd.ntmps20
  go_wp2_with fail
  refine (are_any _ _ zs _ HI.out HM.out).mono ?_
  rintro e w' ⟨rfl, rfl⟩
  rw [HD.out]
  go_wp2_with fail
  refine (sizes_any 0 m _ (by omega) (by omega)).mono ?_
  rintro e w1 ⟨A1, c1, rfl, hown1, hb1⟩
  rw [HS1.out] at hown1 ⊢
  rw [natsZ_length]
  have HO1 := Lib.hid hown1
  have HB1 := Lib.hid hb1
  clear hown1 hb1
  go_wp2_with fail
  refine (sizes_any m n _ hn hm).mono ?_
  rintro e w2 ⟨A2, c2, rfl, hown2, hb2⟩
  rw [HS2.out] at hown2 ⊢
  rw [natsZ_length]
  have HO2 := Lib.hid hown2
  have HO12 := Lib.hid (HO1.out.below hb2)
  have HB2 : Hid (Below w.heap.size w w2) := HB1.out.trans (hb2.mono HB1.out.size)
  clear hown2 hb2
  obtain ⟨V, HV⟩ : ∃ V, Hid (w2.alloc (.cells #[.slice A1 S1.length c1, .slice A2 S2.length c2] 29) = V) := ⟨_, rfl⟩
  have HBV : Hid (Below w.heap.size w V) := by
    show Below _ _ _
    rw [← HV.out]
    exact HB2.out.alloc HB2.out.size _
  have C : Hid (Calls Tryd.prog 66 #[.slice (some ⟨w2.heap.size, 0, none⟩) 2 2] V (RetInts V (natsZ SS))) := by
    show Calls _ _ _ _ _
    rw [← HV.out, ← HSS.out, natsZ_append]
    have hb := Blk.new w2 29 #[.slice A1 S1.length c1, .slice A2 S2.length c2]
    refine concat_two A1 c1 (natsZ S1) A2 c2 (natsZ S2) w2.heap.size _ (HO12.out.ints.allocS _) (HO2.out.ints.allocS _) HO12.out.none0 HO2.out.none0 (by rw [natsZ_length]; omega) (by rw [natsZ_length]; omega) ?_ ?_
    · rw [natsZ_length]; exact hb.cell 0
    · rw [natsZ_length]; exact hb.cell 1
  go_wp2_with fail
  rw [HV.out]
  refine C.out.mono ?_
  rintro e w3 ⟨A3, c3, rfl, hown3, hb3⟩
  have HO3 := Lib.hid hown3
  have HB3 : Hid (Below w.heap.size w w3) := HBV.out.trans (hb3.mono HBV.out.size)
  clear hown3 hb3
  rw [natsZ_length]
  by_cases hlen : zs.length = SS.length
  · have hlb : ((zs.length : Int) != (SS.length : Int)) = false := by simp [hlen]
    have HLE := Lib.hid hlen
    clear hlen
    go_wp2_with fail
    refine (knowns_any A3 c3 SS A cap zs _ HO3.out.ints (HI.out.belowS HB3.out) HLE.out (by omega)).mono ?_
    rintro e w4 ⟨A4, c4, gs, rfl, hown4, hnd4, hb4⟩
    have HO4 := Lib.hid hown4
    have HN4 := Lib.hid hnd4
    have HB4 : Hid (Below w.heap.size w w4) := HB3.out.trans (hb4.mono HB3.out.size)
    clear hown4 hnd4 hb4
    have hgs : gs.length = SS.length := by rw [HN4.out.same, List.length_zip, HLE.out]; omega
    have HGL := Lib.hid hgs
    rw [hgs]
    have hcl := HO4.out.le
    have hc1 : SS.length ≤ c4 := by rw [← hgs]; exact hcl.1
    have hc2 := hcl.2
    unfold maxLen at hc2
    clear hgs hcl
    have hki : (S1.length : Int) ≤ (SS.length : Int) := by omega
    have hki2 : (S1.length : Int) ≤ (c4 : Int) := by omega
    have hki3 : (SS.length : Int) ≤ (c4 : Int) := by omega
    have hlt : (gs.take S1.length).length = S1.length := by rw [List.length_take, HGL.out]; omega
    have HRT : Hid (RootsAt w4 (gs.take S1.length) (zs.take S1.length)) := by
      show RootsAt _ _ _
      have h1 := (HN4.out.cut S1.length).roots
      rw [List.map_take, map_zip SS zs HLE.out] at h1
      exact h1
    obtain ⟨f1, HF1⟩ : ∃ f, Hid (foldZ m (zs.take S1.length) = f) := ⟨_, rfl⟩
    have CP : Hid (Calls Tryd.prog 68 #[.int .i64 (m : Int), .slice A4 S1.length c4] w4 fun e w' => e = .returned (.int .i64 f1) ∧ w4 = w') := by
      have := peaksD_any (m : Int) A4 c4 (gs.take S1.length) (zs.take S1.length) w4 (HO4.out.ints.first S1.length) (by rw [hlt]; omega) HRT.out (HDD.out.take _) (by omega) (by omega)
      rw [hlt, HF1.out] at this
      exact this
    clear hlt
    go_wp2_with fail
    refine CP.out.mono ?_
    rintro e w' ⟨rfl, rfl⟩
    by_cases hold : f1 = old
    · have hob : (f1 == old) = true := by rw [beq_iff_eq]; exact hold
      have HOLD := Lib.hid hold
      clear hold
      have CM : Hid (Calls Tryd.prog 69 #[.slice A4 SS.length c4] w4 (RetNodes w4 (mergeGo pairZ [] (SS.zip zs)).reverse)) := by
        have hsum := of_decide_eq_true (allMN_get look_sum hn hm)
        rw [HGS.out] at hsum
        have := merge_any A4 c4 gs (SS.zip zs) w4 HO4.out.ints HN4.out (digs_zip SS zs HDD.out) (by rw [tot_zip SS zs HLE.out, hsum]; omega) (by rw [List.length_zip]; omega)
        rw [HGL.out] at this
        exact this
      go_wp2_with fail
      refine CM.out.mono ?_
      rintro e w5 ⟨A5, c5, gs5, rfl, hown5, hnd5, hb5⟩
      have HO5 := Lib.hid hown5
      have HRM : Hid (RootsAt w5 gs5 (mergeZ SS zs)) := by
        have h1 := hnd5.roots
        rw [List.map_reverse] at h1
        exact h1
      have HB5 : Hid (Below w.heap.size w w5) := HB4.out.trans (hb5.mono HB4.out.size)
      have hg5 : gs5.length ≤ 40 := by
        rw [hnd5.same, List.length_reverse]
        have := mergeGo_length (SS.zip zs) []
        rw [List.length_zip] at this
        simp at this
        omega
      clear hown5 hnd5 hb5
      obtain ⟨f2, HF2⟩ : ∃ f, Hid (foldZ n (mergeZ SS zs) = f) := ⟨_, rfl⟩
      go_wp2_with fail
      refine (peaksD_any (n : Int) A5 c5 gs5 (mergeZ SS zs) _ HO5.out.ints (by omega) HRM.out (mergeZ_digs SS zs HDD.out) (by omega) (by omega)).mono ?_
      rintro e w' ⟨rfl, rfl⟩
      rw [HF2.out]
      have HRES : Hid (growB m n old digest zs = (f2 == digest)) := by
        show _ = _
        unfold growB
        rw [HGS.out, HS1.out, HF1.out, HF2.out, decide_eq_true HLE.out, decide_eq_true HOLD.out]
        simp
        rw [Bool.eq_iff_iff]; simp
      go_wp2
      go_ret
      exact ⟨ret_bool (by rw [HRES.out]), HB5.out⟩
    · have hob : (f1 == old) = false := by rw [beq_eq_false_iff_ne]; exact hold
      have HRES : Hid (growB m n old digest zs = false) := by
        show _ = _
        unfold growB
        rw [HGS.out, HS1.out, HF1.out, decide_eq_false hold]
        simp
      clear hold
      go_wp2
      go_ret
      exact ⟨ret_bool (by rw [HRES.out]), HB4.out⟩
  · have hlb : ((zs.length : Int) != (SS.length : Int)) = true := by rw [bne_iff_ne]; omega
    have HRES : Hid (growB m n old digest zs = false) := by
      show _ = _
      unfold growB
      rw [HGS.out, decide_eq_false hlen]
      rfl
    clear hlen
    go_wp2
    go_ret
    exact ⟨ret_bool (by rw [HRES.out]), HB3.out⟩

set_option maxHeartbeats 1000000 in
theorem gcheck_nod (m n : Nat) (old digest : Int) (A : Option Addr) (cap : Nat) (zs : List Int) (w : World) (hI : IntsAt w w.heap.size A zs) (hcap : zs.length ≤ cap) (hmax : cap ≤ maxLen) (hn : n ≤ 16) (hm : m ≤ n) (hd : digB zs = false) :
    Calls Tryd.prog 20 #[.int .i64 (m : Int), .int .i64 old, .int .i64 (n : Int), .int .i64 digest, .slice A zs.length cap] w fun e w' => e = .returned (.bool false) ∧ Below w.heap.size w w' := by
  have HI := Lib.hid hI
  have HM := Lib.hid (Nat.le_trans hcap hmax)
  have HD := Lib.hid hd
  have hi1 : ¬ ((n : Int) < 0) := by omega
  have hi2 : ¬ ((16 : Int) < (n : Int)) := by omega
  have hi3 : ¬ ((m : Int) < 0) := by omega
  have hi4 : ¬ ((n : Int) < (m : Int)) := by omega
  clear hI hcap hmax hd
  go_enter Tryd.func20, Tryd.ntmps20
  go_wp2_with fail
  refine (are_any _ _ zs _ HI.out HM.out).mono ?_
  rintro e w' ⟨rfl, rfl⟩
  rw [HD.out]
  go_wp2
  go_ret
  exact ⟨rfl, Below.refl _ _⟩

set_option maxHeartbeats 1000000 in
theorem gcheck_no (m n : Int) (old digest : Int) (A : Option Addr) (cap : Nat) (zs : List Int) (w : World) (hno : ¬ (0 ≤ n ∧ n ≤ 16 ∧ 0 ≤ m ∧ m ≤ n)) :
    Calls Tryd.prog 20 #[.int .i64 m, .int .i64 old, .int .i64 n, .int .i64 digest, .slice A zs.length cap] w fun e w' => e = .returned (.bool false) ∧ Below w.heap.size w w' := by
  by_cases h1 : n < 0
  · clear hno
    go_enter Tryd.func20, Tryd.ntmps20
    go_wp2
    go_ret
    exact ⟨rfl, Below.refl _ _⟩
  · by_cases h2 : 16 < n
    · clear hno
      go_enter Tryd.func20, Tryd.ntmps20
      go_wp2
      go_ret
      exact ⟨rfl, Below.refl _ _⟩
    · by_cases h3 : m < 0
      · clear hno
        go_enter Tryd.func20, Tryd.ntmps20
        go_wp2
        go_ret
        exact ⟨rfl, Below.refl _ _⟩
      · have h4 : n < m := by omega
        clear hno
        go_enter Tryd.func20, Tryd.ntmps20
        go_wp2
        go_ret
        exact ⟨rfl, Below.refl _ _⟩

theorem gcheck_any (zs : List Int) (m old n digest : Int) (A : Option Addr) (cap : Nat) (w : World) (hI : IntsAt w w.heap.size A zs) (hcap : zs.length ≤ cap) (hmax : cap ≤ maxLen) :
    Calls Tryd.prog 20 #[.int .i64 m, .int .i64 old, .int .i64 n, .int .i64 digest, .slice A zs.length cap] w fun e w' => e = .returned (.bool (growOkB m old n digest zs)) ∧ Below w.heap.size w w' := by
  by_cases h : 0 ≤ n ∧ n ≤ 16 ∧ 0 ≤ m ∧ m ≤ n
  · obtain ⟨k, rfl⟩ := Int.eq_ofNat_of_zero_le h.1
    obtain ⟨j, rfl⟩ := Int.eq_ofNat_of_zero_le h.2.2.1
    cases hd : digB zs with
    | true => rw [growOkB_yes (by omega) (by omega) hd]; exact gcheck_yes j k old digest A cap zs w hI hcap hmax (by omega) (by omega) hd
    | false => rw [growOkB_nod hd]; exact gcheck_nod j k old digest A cap zs w hI hcap hmax (by omega) (by omega) hd
  · rw [growOkB_no h]; exact gcheck_no m n old digest A cap zs w h

theorem growthZ_digs (zs : List Int) (k : Nat) (h16 : zs.length ≤ 16) (hd : Digs zs) : Digs (growthZ zs k) := by
  intro x hx
  unfold growthZ growthG at hx
  rcases List.mem_append.1 hx with e | e
  · exact coverZ_digs (zs.take k) 0 (hd.take k) (by rw [List.length_take]; omega) x e
  · exact coverZ_digs zs k hd h16 x e
/-- Growth can be proved. -/
theorem growth_accept (zs : List Int) (k : Nat) (h16 : zs.length ≤ 16) (hk : k ≤ zs.length) (hd : Digs zs) : growOkB (k : Int) (digestZ (zs.take k)) (zs.length : Int) (digestZ zs) (growthZ zs k) = true := by
  rw [growOkB_yes h16 hk (digB_of (growthZ_digs zs k h16 hd))]
  unfold growB
  have hlt : (zs.take k).length = k := by rw [List.length_take]; omega
  rw [decide_eq_true (growth_length zs k h16 hk), growth_first zs k hk, growth_merge zs k h16 hk]
  unfold digestZ
  rw [hlt]
  simp
/-- A proof of growth is for two digests. -/
theorem growOkB_true {m old n digest : Int} {proof : List Int} (h : growOkB m old n digest proof = true) : ∃ j k : Nat, m = j ∧ n = k ∧ k ≤ 16 ∧ j ≤ k ∧ Digs proof ∧ proof.length = (growSizes j k).length ∧ foldZ j (proof.take (sizesOf 0 j).length) = old ∧ foldZ k (mergeZ (growSizes j k) proof) = digest := by
  unfold growOkB growB at h
  simp only [Bool.and_eq_true, decide_eq_true_eq] at h
  obtain ⟨⟨h1, h2, h3, h4⟩, h5, h6, h7, h8⟩ := h
  obtain ⟨k, rfl⟩ := Int.eq_ofNat_of_zero_le h1
  obtain ⟨j, rfl⟩ := Int.eq_ofNat_of_zero_le h3
  rw [Int.toNat_natCast] at h6 h7 h8
  rw [Int.toNat_natCast] at h6 h8
  exact ⟨j, k, rfl, rfl, by omega, by omega, digB_yes h5, h6, h7, h8⟩
theorem growOkB_of {j k : Nat} {old digest : Int} {proof : List Int} (hk : k ≤ 16) (hj : j ≤ k) (hd : Digs proof) (h : growOkB (j : Int) old (k : Int) digest proof = true) : proof.length = (growSizes j k).length ∧ foldZ j (proof.take (sizesOf 0 j).length) = old ∧ foldZ k (mergeZ (growSizes j k) proof) = digest := by
  rw [growOkB_yes hk hj (digB_of hd)] at h
  unfold growB at h
  simp only [Bool.and_eq_true, decide_eq_true_eq] at h
  exact h

end Go.Proofs.YtlpdoieiiadhhaaDoor

namespace Go.Proofs.YtlpdoieiiadhhaaDoor
open Go.RowKit
set_option linter.unusedVariables false

set_option maxHeartbeats 800000 in
theorem sdig2_any (A : Option Addr) (cap : Nat) (zs : List Int) (w : World) (hI : IntsAt w w.heap.size A zs) (hm : zs.length ≤ maxLen) :
    Calls Tryd.prog 112 #[.slice A zs.length cap] w fun e w' => e = .returned (.bool (digB zs)) ∧ w = w' := by
  unfold maxLen at hm
  have HI := Lib.hid hI
  clear hI
  obtain ⟨n, HN⟩ : ∃ n, Hid (zs.length = n) := ⟨_, rfl⟩
  rw [HN.out] at hm ⊢
  go_enter Tryd.func112, Tryd.ntmps112
  go_wp2
  go_loop [3] (fun i => ∃ k : Nat, k ≤ n ∧ i = .int .i64 k ∧ Hid (digB (zs.take k) = true)) (fun i => n - (intOf i).toNat)
  case atStart => exact ⟨0, Nat.zero_le _, rfl, rfl⟩
  case round =>
    obtain ⟨k, hk, rfl, HD⟩ := hrel
    by_cases hlt : k < n
    · have hlz : k < zs.length := by rw [HN.out]; exact hlt
      obtain ⟨b, o, rfl, hb, hc⟩ := HI.out (by omega)
      have hck := hc k hlz
      by_cases hv : 0 ≤ nth zs k ∧ nth zs k < 991
      · have HT : Hid (digB (zs.take (k + 1)) = true) := by show _ = _; rw [digB_take zs k hlz, HD.out, (validB_iff _).2 hv]; rfl
        obtain ⟨hv0, hv1⟩ := hv
        clear hc hlz
        go_wp2_with fail
        refine (sdig_yes _ _ (by omega) (by omega)).mono ?_
        rintro e w' ⟨rfl, rfl⟩
        go_wp2
        go_round
        case rel => exact ⟨k + 1, by omega, by go_num, HT⟩
        case measure => simp [intOf]; omega
      · have HE := Lib.hid (digB_no k hlz hv)
        have HV := Lib.hid hv
        clear hc hlz hv
        go_wp2_with fail
        refine (sdig_no _ _ HV.out).mono ?_
        rintro e w' ⟨rfl, rfl⟩
        go_wp2
        go_ret
        exact ⟨ret_bool HE.out.symm, rfl⟩
    · have HE : Hid (digB zs = true) := digB_all k (by rw [HN.out]; omega) HD.out
      go_wp2
      go_ret
      exact ⟨ret_bool HE.out.symm, rfl⟩

/-- Where the model's loops over sizes stand: what was there before, and the rest. -/
structure SSizesAt (w : World) (pre : List Nat) (s0 n : Nat) (A : Option Addr) (c : Nat) (ds : List Nat) (s f : Nat) (w' : World) : Prop where
  own : OwnInts w' w.heap.size A c (natsZ ds)
  below : Below w.heap.size w w'
  rest : ds ++ (placesGo f s n).map (·.2) = pre ++ sizesOf s0 n
  fuel : n < s + f
  short : ds.length ≤ 20 + s

def RetSizes (w : World) (m n : Nat) (e : Ending) (w' : World) : Prop :=
  ∃ A cap, e = .returned (.tuple #[.slice A (growSizes m n).length cap, .int .i64 ((sizesOf 0 m).length : Int)]) ∧ OwnInts w' w.heap.size A cap (natsZ (growSizes m n)) ∧ Below w.heap.size w w'

set_option maxHeartbeats 4000000 in
set_option maxRecDepth 100000 in
theorem ssizes_any (m n : Nat) (w : World) (hn : n ≤ 16) (hm : m ≤ n) :
    Calls Tryd.prog 113 #[.int .i64 (m : Int), .int .i64 (n : Int)] w (RetSizes w m n) := by
  go_enter Tryd.func113, Tryd.ntmps113
  go_wp2
  go_loopw [6, 7] (fun x i w' => ∃ (A : Option Addr) (c : Nat) (ds : List Nat) (s f : Nat), s ≤ m ∧ x = .slice A ds.length c ∧ i = .int .i64 s ∧ Hid (SSizesAt w [] 0 m A c ds s f w')) (fun _ i _ => m - (intOf i).toNat)
  case atStart =>
    refine ⟨_, _, [], 0, 17, by omega, rfl, rfl, ?_⟩
    exact ⟨OwnInts.new w, (Below.refl _ _).alloc (Nat.le_refl _) _, rfl, by omega, by simp⟩
  case round =>
    obtain ⟨A, c, ds, s, f, hs, rfl, rfl, HC⟩ := hrel
    by_cases hlt : s < m
    · obtain ⟨f, rfl⟩ : ∃ f', f = f' + 1 := by
        cases f with
        | zero => have := HC.out.fuel; omega
        | succ f => exact ⟨f, rfl⟩
      obtain ⟨k, HK⟩ : ∃ k, Hid (sizeAt s (m - s) = k) := ⟨_, rfl⟩
      have hk1 : 1 ≤ k := by rw [← HK.out]; exact sizeAt_pos _ _
      have hk2 : k ≤ m - s := by rw [← HK.out]; exact sizeAt_le _ _ (by omega)
      have hb0 : w.heap.size ≤ wr.heap.size := HC.out.below.size
      have hdl : ds.length ≤ 40 := by have := HC.out.short; omega
      go_wp2_with fail
      refine (ssize_any _ _ _ (by omega) (by omega)).mono ?_
      rintro e w1 ⟨rfl, rfl⟩
      rw [HK.out]
      go_wp2_with (at_builtin; refine wpList_app_ints rfl (.tmp 19) (.tmp 23) rfl _ w.heap.size A c (natsZ ds) (by rw [natsZ_length]; rfl) _ _ [(k : Int)] rfl (HC.out.own.alloc _) (one_new _ _) (by rw [natsZ_length]; simp; omega) (by simp; omega) (by simp) ?_; intro v w3 hA; obtain ⟨⟨A', c', rfl, hown⟩, hg, hbel⟩ := hA; have HO : Hid (OwnInts w3 w.heap.size A' c' (natsZ (ds ++ [k]))) := (by show OwnInts _ _ _ _ _; rw [natsZ_append]; exact hown); have HB := Lib.hid hbel; have hlen : (natsZ ds ++ [(k : Int)]).length = (ds ++ [k]).length := (by rw [List.length_append, List.length_append, natsZ_length]; rfl); rw [hlen]; clear hown hg hbel hlen)
      refine (ssize_any _ _ _ (by omega) (by omega)).mono ?_
      rintro e w1 ⟨rfl, rfl⟩
      rw [HK.out]
      go_wp2
      go_roundw
      case rel =>
        refine ⟨A', c', ds ++ [k], s + k, f, by omega, by simp, by go_num, ?_⟩
        have hC := HC.out
        refine ⟨HO.out, (hC.below.alloc (by omega) _).trans HB.out, ?_, ?_, ?_⟩
        · rw [← hC.rest, placesGo_step hlt, List.append_assoc]
          show ds ++ ([k] ++ _) = _
          rw [HK.out]
          rfl
        · have := hC.fuel; omega
        · have := hC.short; simp; omega
      case measure => simp [intOf]; omega
    · have HE : Hid (ds = sizesOf 0 m) := by
        show _ = _
        have := HC.out.rest
        rw [placesGo_stop hlt] at this
        simpa using this
      obtain ⟨L, HL⟩ : ∃ L, Hid (ds.length = L) := ⟨_, rfl⟩
      have hL17 : L ≤ 17 := by rw [← HL.out, HE.out, sizesOf_length]; exact places_length_le _ _
      have HS2 : Hid (SSizesAt w (sizesOf 0 m) m n A c ds m 17 wr) := ⟨HC.out.own, HC.out.below, (by rw [HE.out]; rfl), by omega, by rw [HL.out]; omega⟩
      rw [HL.out]
      go_wp2
      go_loopw [6, 9] (fun x i w' => ∃ (A' : Option Addr) (c' : Nat) (ds' : List Nat) (s' f' : Nat), s' ≤ n ∧ x = .slice A' ds'.length c' ∧ i = .int .i64 s' ∧ Hid (SSizesAt w (sizesOf 0 m) m n A' c' ds' s' f' w')) (fun _ i _ => n - (intOf i).toNat)
      case atStart => exact ⟨A, c, ds, m, 17, hm, by rw [HL.out], rfl, HS2⟩
      case round =>
        obtain ⟨A', c', ds', s', f', hs', rfl, rfl, HC'⟩ := hrel
        by_cases hlt : s' < n
        · obtain ⟨f', rfl⟩ : ∃ f1, f' = f1 + 1 := by
            cases f' with
            | zero => have := HC'.out.fuel; omega
            | succ f => exact ⟨f, rfl⟩
          obtain ⟨k, HK⟩ : ∃ k, Hid (sizeAt s' (n - s') = k) := ⟨_, rfl⟩
          have hk1 : 1 ≤ k := by rw [← HK.out]; exact sizeAt_pos _ _
          have hk2 : k ≤ n - s' := by rw [← HK.out]; exact sizeAt_le _ _ (by omega)
          have hb0 : w.heap.size ≤ wr.heap.size := HC'.out.below.size
          have hdl : ds'.length ≤ 40 := by have := HC'.out.short; omega
          go_wp2_with fail
          refine (ssize_any _ _ _ (by omega) (by omega)).mono ?_
          rintro e w1 ⟨rfl, rfl⟩
          rw [HK.out]
          go_wp2_with (at_builtin; refine wpList_app_ints rfl (.tmp 36) (.tmp 40) rfl _ w.heap.size A' c' (natsZ ds') (by rw [natsZ_length]; rfl) _ _ [(k : Int)] rfl (HC'.out.own.alloc _) (one_new _ _) (by rw [natsZ_length]; simp; omega) (by simp; omega) (by simp) ?_; intro v w3 hA; obtain ⟨⟨A3, c3, rfl, hown⟩, hg, hbel⟩ := hA; have HO : Hid (OwnInts w3 w.heap.size A3 c3 (natsZ (ds' ++ [k]))) := (by show OwnInts _ _ _ _ _; rw [natsZ_append]; exact hown); have HB := Lib.hid hbel; have hlen : (natsZ ds' ++ [(k : Int)]).length = (ds' ++ [k]).length := (by rw [List.length_append, List.length_append, natsZ_length]; rfl); rw [hlen]; clear hown hg hbel hlen)
          refine (ssize_any _ _ _ (by omega) (by omega)).mono ?_
          rintro e w1 ⟨rfl, rfl⟩
          rw [HK.out]
          go_wp2
          go_roundw
          case rel =>
            refine ⟨A3, c3, ds' ++ [k], s' + k, f', by omega, by simp, by go_num, ?_⟩
            have hC := HC'.out
            refine ⟨HO.out, (hC.below.alloc (by omega) _).trans HB.out, ?_, ?_, ?_⟩
            · rw [← hC.rest, placesGo_step hlt, List.append_assoc]
              show ds' ++ ([k] ++ _) = _
              rw [HK.out]
              rfl
            · have := hC.fuel; omega
            · have := hC.short; simp; omega
          case measure => simp [intOf]; omega
        · have HE' : Hid (ds' = growSizes m n) := by
            show _ = _
            have := HC'.out.rest
            rw [placesGo_stop hlt] at this
            simpa [growSizes] using this
          go_wp2
          go_ret2
          refine ⟨A', c', ?_, ?_, HC'.out.below⟩
          · rw [← HE'.out, ← HE.out, HL.out]; rfl
          · rw [← HE'.out]; exact HC'.out.own

end Go.Proofs.YtlpdoieiiadhhaaDoor

namespace Go.Proofs.YtlpdoieiiadhhaaDoor
open Go.RowKit
set_option linter.unusedVariables false

/-- What an append of one number leaves, and where the new slice lies. -/
structure OneMore (W : World) (base : Nat) (A : Option Addr) (ds : List Int) (z : Int) (v : Value) (w' : World) : Prop where
  own : ∃ g c', v = .slice (some ⟨g, 0, none⟩) (ds.length + 1) c' ∧ OwnInts w' base (some ⟨g, 0, none⟩) c' (ds ++ [z]) ∧ (A = some ⟨g, 0, none⟩ ∨ g = W.heap.size)
  grown : ∀ b, A = some ⟨b, 0, none⟩ → W.grownBy w' (some b)
  below : Below base W w'

theorem wpList_one_more {ops : Array Oper} {rest : List Oper} {o : Oper} {a : Act} {Q : Exit → Act → World → Prop} (hgd : o.guard = none) (s x : Operand) (ho : o.op = .call { callee := .builtin .append, args := #[s, x], argTypes := #[29, 29] })
    (W : World) (base : Nat) (g0 c : Nat) (ds : List Int) (hs : a.eval s = .slice (some ⟨g0, 0, none⟩) ds.length c) (B : Option Addr) (bc : Nat) (z : Int) (hx : a.eval x = .slice B 1 bc)
    (hown : OwnInts W base (some ⟨g0, 0, none⟩) c ds) (hI : IntsAt W W.heap.size B [z]) (hl : ds.length ≤ 2000000) (hbase : base ≤ W.heap.size)
    (h : ∀ v w', OneMore W base (some ⟨g0, 0, none⟩) ds z v w' → wpList Tryd.prog ops Q rest (a.put o.dst v) w') : wpList Tryd.prog ops Q (o :: rest) a W := by
  obtain ⟨i0, hi0, hz0, hz1, hz2⟩ := info_parts int_info
  obtain ⟨b, ob, rfl, hb, hc⟩ := hI (by simp)
  have hcells : ∀ j u, (vals [z])[j]? = some u → W.cell? ((⟨b, ob, none⟩ : Addr).add j) = some u := by
    intro j u hu
    have hj : j < 1 := by
      have := (List.getElem?_eq_some_iff.1 hu).1
      simpa [vals] using this
    rw [vals_get [z] j (by simpa using hj)] at hu
    rw [Addr.add_lit, ← hu]
    exact hc j (by simpa using hj)
  refine wpList_append_own_at (P := Tryd.prog) W hgd s x 29 ho base 3 i0 _ 1 8 Tryd.underlying29 hi0 hz0 hz1 hz2 rfl (by omega) _ ds.length (vals ds) hs hown ⟨b, ob, none⟩ 1 bc (vals [z]) hx (by simp [vals]) hcells (vals_one [z]) (by unfold maxLen; omega) (by omega) hbase ?_
  intro v' w' h2 h3 _ h5
  refine h v' w' ⟨?_, ?_, (Below.refl _ _).grown h3 hbase (fun k hk => hown.far (n := ds.length) k hk)⟩
  · rw [← vals_append] at h2
    rcases h2.2 with ⟨hv, hn⟩ | ⟨g, cap, cur, hv, hr⟩
    · omega
    · refine ⟨g, cap, hv, ?_, ?_⟩
      · unfold OwnInts; rw [List.length_append]; rw [hv] at h2; exact h2
      · rw [hv] at h5
        simp only [Value.ownBlock, Option.some.injEq] at h5
        rcases h5 with e | e
        · left; rw [e]
        · right; exact e
  · intro b' e
    injection e with e
    injection e with e _ _
    subst e
    exact h3

theorem own_ne2 {w w' : World} {base : Nat} {g cap : Nat} {zs : List Int} (h : OwnInts w base (some ⟨g, 0, none⟩) cap zs) {b : Nat} (hg : w.grownBy w' (some b)) (hne : g ≠ b) : OwnInts w' base (some ⟨g, 0, none⟩) cap zs :=
  World.ownsRow.kept h hg (by right; simp [Value.ownBlock]; exact hne)
theorem own_lt2 {w : World} {base g cap : Nat} {zs : List Int} (h : OwnInts w base (some ⟨g, 0, none⟩) cap zs) : base ≤ g ∧ g < w.heap.size := World.ownsRow.lt h g rfl
theorem own_new2 (w : World) (base : Nat) (hb : base ≤ w.heap.size) : OwnInts (w.alloc (.cells #[] 3)) base (some ⟨w.heap.size, 0, none⟩) 0 [] := (OwnInts.new w).base_le hb

def szs (st : List (Nat × Int)) : List Int := natsZ (st.map (·.1)).reverse
def rts (st : List (Nat × Int)) : List Int := (st.map (·.2)).reverse
theorem szs_length (st : List (Nat × Int)) : (szs st).length = st.length := by unfold szs; rw [natsZ_length, List.length_reverse, List.length_map]
theorem rts_length (st : List (Nat × Int)) : (rts st).length = st.length := by unfold rts; rw [List.length_reverse, List.length_map]
theorem szs_cons (s : Nat) (t : Int) (st : List (Nat × Int)) : szs ((s, t) :: st) = szs st ++ [(s : Int)] := by unfold szs; rw [List.map_cons, List.reverse_cons, natsZ_append]; rfl
theorem rts_cons (s : Nat) (t : Int) (st : List (Nat × Int)) : rts ((s, t) :: st) = rts st ++ [t] := by unfold rts; rw [List.map_cons, List.reverse_cons]
theorem nth_snoc (l : List Int) (a : Int) : nth (l ++ [a]) l.length = a := by unfold nth; rw [List.getD_eq_getElem?_getD, List.getElem?_append_right (Nat.le_refl _), Nat.sub_self]; rfl
theorem pushS_tot (at_ : Nat) : ∀ (st : List (Nat × Int)) (s : Nat) (t : Int), totS (pushS pairZ at_ st s t) = totS st + s := by
  intro st
  induction st with
  | nil => intro s t; show s + 0 = 0 + s; omega
  | cons p st ih =>
    intro s t
    obtain ⟨s', t'⟩ := p
    show totS (if s' = s ∧ (at_ - 2 * s) % (2 * s) = 0 then pushS pairZ at_ st (2 * s) (pairZ t' t) else (s, t) :: (s', t') :: st) = s' + totS st + s
    by_cases c : s' = s ∧ (at_ - 2 * s) % (2 * s) = 0
    · rw [if_pos c, ih]; omega
    · rw [if_neg c]; show s + (s' + totS st) = _; omega
theorem pushS_digs (at_ : Nat) : ∀ (st : List (Nat × Int)) (s : Nat) (t : Int), DigsP st → (0 ≤ t ∧ t < 991) → DigsP (pushS pairZ at_ st s t) := by
  intro st
  induction st with
  | nil => intro s t _ h p hp; have : p = (s, t) := by simpa [pushS] using hp
           subst this; exact h
  | cons p st ih =>
    intro s t hd h
    obtain ⟨s', t'⟩ := p
    show DigsP (if s' = s ∧ (at_ - 2 * s) % (2 * s) = 0 then pushS pairZ at_ st (2 * s) (pairZ t' t) else (s, t) :: (s', t') :: st)
    by_cases c : s' = s ∧ (at_ - 2 * s) % (2 * s) = 0
    · rw [if_pos c]; exact ih _ _ (fun p hp => hd p (List.mem_cons_of_mem _ hp)) (pairZ_bd _ _)
    · rw [if_neg c]
      intro p hp
      rcases List.mem_cons.1 hp with e | e
      · subst e; exact h
      · exact hd p e
theorem pushS_length (at_ : Nat) : ∀ (st : List (Nat × Int)) (s : Nat) (t : Int), (pushS pairZ at_ st s t).length ≤ st.length + 1 := by
  intro st
  induction st with
  | nil => intro s t; exact Nat.le_refl _
  | cons p st ih =>
    intro s t
    obtain ⟨s', t'⟩ := p
    show (if s' = s ∧ (at_ - 2 * s) % (2 * s) = 0 then pushS pairZ at_ st (2 * s) (pairZ t' t) else (s, t) :: (s', t') :: st).length ≤ _
    by_cases c : s' = s ∧ (at_ - 2 * s) % (2 * s) = 0
    · rw [if_pos c]; have := ih (2 * s) (pairZ t' t); simp; omega
    · rw [if_neg c]; simp

structure SPushAt (w : World) (tgt : List (Nat × Int)) (at_ : Nat) (g1 c1 g2 c2 : Nat) (st : List (Nat × Int)) (r : Int) (s : Nat) (w' : World) : Prop where
  own1 : OwnInts w' w.heap.size (some ⟨g1, 0, none⟩) c1 (szs st)
  own2 : OwnInts w' w.heap.size (some ⟨g2, 0, none⟩) c2 (rts st)
  ne : g1 ≠ g2
  below : Below w.heap.size w w'
  push : pushS pairZ at_ st s r = tgt
  dig : 0 ≤ r ∧ r < 991
  digs : DigsP st
  tot : totS st + s = at_
  pos : 1 ≤ s
  short : st.length ≤ 40

structure SMergeAt (w : World) (ts : List (Nat × Int)) (at_ : Nat) (g1 c1 g2 c2 : Nat) (st : List (Nat × Int)) (k : Nat) (w' : World) : Prop where
  own1 : OwnInts w' w.heap.size (some ⟨g1, 0, none⟩) c1 (szs st)
  own2 : OwnInts w' w.heap.size (some ⟨g2, 0, none⟩) c2 (rts st)
  ne : g1 ≠ g2
  below : Below w.heap.size w w'
  rest : mergeSGo pairZ at_ st (ts.drop k) = mergeSGo pairZ 0 [] ts
  digs : DigsP st
  tot : totS st = at_
  all : at_ + totS (ts.drop k) ≤ 16
  short : st.length ≤ k

theorem mod2_eq (a s : Nat) (h : 2 * s ≤ a) : (((a : Int) % (2 * (s : Int))) == 0) = decide ((a - 2 * s) % (2 * s) = 0) := by
  have e : (a : Int) % (2 * (s : Int)) = ((a % (2 * s) : Nat) : Int) := by
    rw [Int.natCast_emod, Int.natCast_mul]; rfl
  rw [e, ← Nat.mod_eq_sub_mod h, Bool.eq_iff_iff]
  simp only [beq_iff_eq, decide_eq_true_eq]
  omega

set_option maxHeartbeats 4000000 in
set_option maxRecDepth 100000 in
theorem smerge_any (A : Option Addr) (ca : Nat) (ss : List Nat) (B : Option Addr) (cb : Nat) (rs : List Int) (w : World) (hS : IntsAt w w.heap.size A (natsZ ss)) (hR : IntsAt w w.heap.size B rs) (hl : rs.length = ss.length) (hd : Digs rs) (ht : totS (ss.zip rs) ≤ 16) (hps : ∀ x ∈ ss, 1 ≤ x) (hm : ss.length ≤ 40) :
    Calls Tryd.prog 114 #[.slice A ss.length ca, .slice B rs.length cb] w (RetInts w (mergeS pairZ ss rs)) := by
  have HS := Lib.hid hS
  have HR := Lib.hid hR
  obtain ⟨n, HN⟩ : ∃ n, Hid (ss.length = n) := ⟨_, rfl⟩
  have HL : Hid (rs.length = n) := by show _ = _; rw [hl]; exact HN.out
  obtain ⟨ts, HTS⟩ : ∃ ts, Hid (ss.zip rs = ts) := ⟨_, rfl⟩
  have HD : Hid (DigsP ts) := by show DigsP ts; rw [← HTS.out]; exact digs_zip ss rs hd
  have HT : Hid (ts.length = n) := by show _ = _; rw [← HTS.out, List.length_zip, HN.out, HL.out]; omega
  have HPS := Lib.hid hps
  have HQ0 : Hid (∀ k, k < n → ts.getD k (0, 0) = (ss.getD k 0, nth rs k)) := fun k hk => by
    have h1 : k < ss.length := by rw [HN.out]; exact hk
    have h2 : k < rs.length := by rw [HL.out]; exact hk
    rw [← HTS.out, List.getD_eq_getElem?_getD, List.getElem?_eq_getElem (by rw [List.length_zip]; omega), List.getElem_zip]
    unfold nth
    rw [List.getD_eq_getElem?_getD, List.getD_eq_getElem?_getD, List.getElem?_eq_getElem h1, List.getElem?_eq_getElem h2]
    rfl
  rw [HTS.out] at ht
  rw [HL.out, HN.out]
  rw [HN.out] at hm
  clear hS hR hl hd hps
  go_enter Tryd.func114, Tryd.ntmps114
  go_wp2
  go_loopw [5, 6, 7, 8] (fun x1 x2 a i w' => ∃ (g1 c1 g2 c2 : Nat) (st : List (Nat × Int)) (k at_ : Nat), k ≤ n ∧ x1 = .slice (some ⟨g1, 0, none⟩) st.length c1 ∧ x2 = .slice (some ⟨g2, 0, none⟩) st.length c2 ∧ a = .int .i64 at_ ∧ i = .int .i64 k ∧ at_ ≤ 16 ∧ Hid (SMergeAt w ts at_ g1 c1 g2 c2 st k w')) (fun _ _ _ i _ => n - (intOf i).toNat)
  case atStart =>
    refine ⟨w.heap.size, 0, w.heap.size + 1, 0, [], 0, 0, by omega, rfl, rfl, rfl, rfl, by omega, ?_⟩
    have h1 := own_new2 w w.heap.size (Nat.le_refl _)
    have h2 := own_new2 (w.alloc (.cells #[] 3)) w.heap.size (by simp)
    refine ⟨h1.alloc _, (by show OwnInts _ _ _ _ []; simpa using h2), by omega, ((Below.refl _ _).alloc (Nat.le_refl _) _).alloc (by simp) _, rfl, (fun p hp => by cases hp), rfl, (by show 0 + totS ts ≤ 16; omega), by simp⟩
  case round =>
    obtain ⟨g1, c1, g2, c2, st, k, at_, hk, rfl, rfl, rfl, rfl, hat16, HM⟩ := hrel
    by_cases hlt : k < n
    · have hks : k < ss.length := by rw [HN.out]; exact hlt
      have hkr : k < rs.length := by rw [HL.out]; exact hlt
      have hkt : k < ts.length := by rw [HT.out]; exact hlt
      obtain ⟨b1, o1, rfl, hb1, hc1⟩ := (HS.out.below HM.out.below (Nat.le_refl _)) (by rw [natsZ_length]; omega)
      obtain ⟨b2, o2, rfl, hb2, hc2⟩ := (HR.out.below HM.out.below (Nat.le_refl _)) (by omega)
      have hck1 := hc1 k (by rw [natsZ_length]; exact hks)
      have hck2 := hc2 k hkr
      rw [natsZ_nth] at hck1
      obtain ⟨q, HQ⟩ : ∃ q : Nat × Int, Hid (ts.getD k (0, 0) = q) := ⟨_, rfl⟩
      have hq := HQ0.out k hlt
      rw [HQ.out] at hq
      have hq1 : ss.getD k 0 = q.1 := by rw [hq]
      have hq2 : nth rs k = q.2 := by rw [hq]
      rw [hq1] at hck1
      rw [hq2] at hck2
      have hdrop : ts.drop k = q :: ts.drop (k + 1) := by
        rw [List.drop_eq_getElem_cons hkt]
        have := HQ.out
        rw [List.getD_eq_getElem?_getD, List.getElem?_eq_getElem hkt] at this
        simp at this
        rw [this]
      have hqp : 1 ≤ q.1 := by
        rw [← hq1, List.getD_eq_getElem?_getD, List.getElem?_eq_getElem hks]
        exact HPS.out _ (List.getElem_mem hks)
      have hqm : q ∈ ts := by rw [← List.take_append_drop k ts, hdrop]; simp
      have hall := HM.out.all
      rw [hdrop] at hall
      have hall2 : totS (q :: ts.drop (k + 1)) = q.1 + totS (ts.drop (k + 1)) := rfl
      have hq16 : at_ + q.1 ≤ 16 := by omega
      obtain ⟨at1, HAT1⟩ : ∃ a, Hid (at_ + q.1 = a) := ⟨_, rfl⟩
      have hat1 : at1 ≤ 16 := by rw [← HAT1.out]; exact hq16
      have HPA : Hid (SPushAt w (pushS pairZ at1 st q.1 q.2) at1 g1 c1 g2 c2 st q.2 q.1 wr) := by
        have hM := HM.out
        exact ⟨hM.own1, hM.own2, hM.ne, hM.below, rfl, HD.out q hqm, hM.digs, by rw [hM.tot]; exact HAT1.out, hqp, by have := hM.short; omega⟩
      have HDR := Lib.hid hdrop
      have hq1b : q.1 ≤ 16 := by omega
      clear hc1 hc2 hks hkr hkt hq hq1 hq2 hdrop hqm hall hall2
      obtain ⟨qs, HQS⟩ : ∃ s, Hid (q.1 = s) := ⟨_, rfl⟩
      obtain ⟨qr, HQR⟩ : ∃ r, Hid (q.2 = r) := ⟨_, rfl⟩
      rw [HQS.out] at hck1 hq16 hq1b hqp
      rw [HQR.out] at hck2
      go_wp2_with fail
      rw [show (at_ : Int) + (qs : Int) = (at1 : Int) from by have := HAT1.out; rw [HQS.out] at this; omega]
      go_loopw [5, 6, 9, 10] (fun x1 x2 s r w' => ∃ (g1' c1' g2' c2' : Nat) (st' : List (Nat × Int)) (r' : Int) (s' : Nat), x1 = .slice (some ⟨g1', 0, none⟩) st'.length c1' ∧ x2 = .slice (some ⟨g2', 0, none⟩) st'.length c2' ∧ s = .int .i64 s' ∧ r = .int .i64 r' ∧ Hid (SPushAt w (pushS pairZ at1 st q.1 q.2) at1 g1' c1' g2' c2' st' r' s' w')) (fun x1 _ _ _ _ => sliceLen x1)
      case atStart => exact ⟨g1, c1, g2, c2, st, q.2, q.1, rfl, rfl, by rw [HQS.out], by rw [HQR.out], HPA⟩
      case round =>
        obtain ⟨g1', c1', g2', c2', st', r', s', rfl, rfl, rfl, rfl, HPP⟩ := hrel
        obtain ⟨L, HLG⟩ : ∃ L, Hid (st'.length = L) := ⟨_, rfl⟩
        have hL40 : L ≤ 40 := by rw [← HLG.out]; exact HPP.out.short
        have hs16 : s' ≤ 16 := by have := HPP.out.tot; omega
        have hs1 := HPP.out.pos
        rw [HLG.out]
        cases st' with
        | nil =>
          have hL0 : L = 0 := by rw [← HLG.out]; rfl
          subst hL0
          have HTG : Hid (pushS pairZ at1 st q.1 q.2 = [(s', r')]) := by show _ = _; rw [← HPP.out.push]; rfl
          have hb0 : w.heap.size ≤ wr.heap.size := HPP.out.below.size
          go_wp2_with (first
            | (at_builtin; refine wpList_one_more rfl (.tmp 73) (.tmp 75) rfl _ w.heap.size g2' c2' (rts ([] : List (Nat × Int))) (by rw [rts_length, HLG.out]; rfl) _ _ r' rfl (HPP.out.own2.alloc _) (one_new _ _) (by rw [rts_length, HLG.out]; omega) (by simp; omega) ?_; intro v w3 hA; obtain ⟨⟨g4, c4, rfl, hown4, hat4⟩, hg4, hb4⟩ := hA; have HG4 := Lib.hid (hg4 g2' rfl); have HO4 := Lib.hid hown4; have HAT4 := Lib.hid hat4; have HB4 := Lib.hid hb4; rw [rts_length, HLG.out]; clear hown4 hat4 hg4 hb4; have hz4 : wr.heap.size ≤ w3.heap.size := (by have := HG4.out.size; simp at this; omega); have HO14 := Lib.hid (own_ne2 (HPP.out.own1.alloc _) HG4.out HPP.out.ne))
            | (at_builtin; refine wpList_one_more rfl (.tmp 77) (.tmp 79) rfl _ w.heap.size g1' c1' (szs ([] : List (Nat × Int))) (by rw [szs_length, HLG.out]; rfl) _ _ (s' : Int) rfl (HO14.out.alloc _) (one_new _ _) (by rw [szs_length, HLG.out]; omega) (by simp; omega) ?_; intro v w5 hA; obtain ⟨⟨g5, c5, rfl, hown5, hat5⟩, hg5, hb5⟩ := hA; have HG5 := Lib.hid (hg5 g1' rfl); have HO5 := Lib.hid hown5; have HAT5 := Lib.hid hat5; have HB5 := Lib.hid hb5; rw [szs_length, HLG.out]; clear hown5 hat5 hg5 hb5))
          go_roundw
          case rel =>
            have hP := HPP.out
            have hM := HM.out
            have hl1 := own_lt2 hP.own1
            have hl2 := own_lt2 hP.own2
            have hl4 := own_lt2 HO4.out
            have hg41 : g4 ≠ g1' := by
              rcases HAT4.out with e | e
              · injection e with e; injection e with e _ _; have := hP.ne; omega
              · simp at e; omega
            have hg45 : g5 ≠ g4 := by
              rcases HAT5.out with e | e
              · injection e with e; injection e with e _ _; omega
              · simp at e; omega
            refine ⟨g5, c5, g4, c4, pushS pairZ at1 st q.1 q.2, k + 1, at1, by omega, ?_, ?_, rfl, by go_num, by omega, ?_⟩
            · rw [HTG.out, List.length_cons, HLG.out]
            · rw [HTG.out, List.length_cons, HLG.out]
            · have htot : totS (ts.drop k) = q.1 + totS (ts.drop (k + 1)) := by rw [HDR.out]; rfl
              refine ⟨?_, ?_, hg45, ?_, ?_, ?_, ?_, ?_, ?_⟩
              · rw [HTG.out, szs_cons]; exact HO5.out
              · rw [HTG.out, rts_cons]; exact own_ne2 (HO4.out.alloc _) HG5.out hg41
              · exact ((((hP.below.alloc (by omega) _).trans HB4.out).alloc (by omega) _).trans HB5.out)
              · rw [← hM.rest, HDR.out, ← HAT1.out]; rfl
              · exact pushS_digs _ _ _ _ hM.digs (HD.out q (by rw [← List.take_append_drop k ts, HDR.out]; simp))
              · rw [pushS_tot, hM.tot]; exact HAT1.out
              · have := hM.all; have h2 := HAT1.out; omega
              · have := pushS_length at1 st q.1 q.2; have h2 := hM.short; omega
          case measure => simp [intOf]; omega
        | cons p st2 =>
          obtain ⟨s2, r2⟩ := p
          have hL : L = st2.length + 1 := by rw [← HLG.out]; rfl
          have hL1 : 1 ≤ L := by omega
          have htt := HPP.out.tot
          have htt2 : totS ((s2, r2) :: st2) = s2 + totS st2 := rfl
          have hs2 : s2 ≤ 16 := by omega
          have k1 : wr.cell? ⟨g1', L - 1, none⟩ = some (.int .i64 (s2 : Int)) := by
            have h1 := (HPP.out.own1.ints.lt (by rw [szs_length]; simp)).2 (L - 1) (by rw [szs_length, HLG.out]; omega)
            rw [Nat.zero_add, szs_cons, show L - 1 = (szs st2).length from by rw [szs_length]; omega, nth_snoc] at h1
            rw [show L - 1 = (szs st2).length from by rw [szs_length]; omega]
            exact h1
          have k2 : wr.cell? ⟨g2', L - 1, none⟩ = some (.int .i64 r2) := by
            have h1 := (HPP.out.own2.ints.lt (by rw [rts_length]; simp)).2 (L - 1) (by rw [rts_length, HLG.out]; omega)
            rw [Nat.zero_add, rts_cons, show L - 1 = (rts st2).length from by rw [rts_length]; omega, nth_snoc] at h1
            rw [show L - 1 = (rts st2).length from by rw [rts_length]; omega]
            exact h1
          have hcb1 := HPP.out.own1.le
          have hcb2 := HPP.out.own2.le
          rw [szs_length, HLG.out] at hcb1
          rw [rts_length, HLG.out] at hcb2
          have hLc1 : (L : Int) - 1 ≤ (c1' : Int) := by omega
          have hLc2 : (L : Int) - 1 ≤ (c2' : Int) := by omega
          have hc631 := hcb1.2
          have hc632 := hcb2.2
          unfold maxLen at hc631 hc632
          have HHL := Lib.hid hL
          have HTT : Hid (s2 + totS st2 + s' = at1) := htt
          clear hcb1 hcb2 hL htt2
          by_cases heq : s2 = s'
          · have hbb : ((s2 : Int) == (s' : Int)) = true := by rw [beq_iff_eq]; omega
            have h2s : 2 * s' ≤ at1 := by have := HTT.out; omega
            have hme := mod2_eq at1 s' h2s
            clear htt
            by_cases hmod : (at1 - 2 * s') % (2 * s') = 0
            · rw [decide_eq_true hmod] at hme
              have HPU : Hid (pushS pairZ at1 st2 (2 * s') (pairZ r2 r') = pushS pairZ at1 st q.1 q.2) := by
                show _ = _
                rw [← HPP.out.push]
                show _ = (if s2 = s' ∧ (at1 - 2 * s') % (2 * s') = 0 then _ else _)
                rw [if_pos ⟨heq, hmod⟩]
              have HEQ := Lib.hid heq
              have HDP := HPP.out.digs (s2, r2) (by simp)
              obtain ⟨hr20, hr21⟩ := HDP
              obtain ⟨hr10, hr11⟩ := HPP.out.dig
              clear heq hmod
              go_wp2_with fail
              refine (spair1_any _ _ _ hr20 hr21 hr10 hr11).mono ?_
              rintro e w' ⟨rfl, rfl⟩
              go_wp2
              go_roundw
              case rel =>
                have hP := HPP.out
                have hLe := HHL.out
                refine ⟨g1', c1', g2', c2', st2, pairZ r2 r', 2 * s', ?_, ?_, by go_num, rfl, ?_⟩
                · rw [show st2.length = L - 1 from by omega]
                · rw [show st2.length = L - 1 from by omega]
                · have e1 : (szs ((s2, r2) :: st2)).take st2.length = szs st2 := by rw [szs_cons, ← szs_length st2]; exact List.take_left
                  have e2 : (rts ((s2, r2) :: st2)).take st2.length = rts st2 := by rw [rts_cons, ← rts_length st2]; exact List.take_left
                  have o1 := hP.own1.cut st2.length (by rw [szs_length]; simp)
                  have o2 := hP.own2.cut st2.length (by rw [rts_length]; simp)
                  rw [e1] at o1
                  rw [e2] at o2
                  exact ⟨o1, o2, hP.ne, hP.below, HPU.out, pairZ_bd _ _, (fun p hp => hP.digs p (List.mem_cons_of_mem _ hp)), (by have := HTT.out; have := HEQ.out; omega), by omega, by have := hP.short; simp at this; omega⟩
              case measure => simp [sliceLen]; omega
            · rw [decide_eq_false hmod] at hme
              have HTG : Hid (pushS pairZ at1 st q.1 q.2 = (s', r') :: (s2, r2) :: st2) := by
                show _ = _
                rw [← HPP.out.push]
                show (if s2 = s' ∧ (at1 - 2 * s') % (2 * s') = 0 then _ else _) = _
                rw [if_neg (fun h => hmod h.2)]
              clear heq hmod
              have hb0 : w.heap.size ≤ wr.heap.size := HPP.out.below.size
              go_wp2_with (first
                | (at_builtin; refine wpList_one_more rfl (.tmp 73) (.tmp 75) rfl _ w.heap.size g2' c2' (rts ((s2, r2) :: st2)) (by rw [rts_length, HLG.out]; rfl) _ _ r' rfl (HPP.out.own2.alloc _) (one_new _ _) (by rw [rts_length, HLG.out]; omega) (by simp; omega) ?_; intro v w3 hA; obtain ⟨⟨g4, c4, rfl, hown4, hat4⟩, hg4, hb4⟩ := hA; have HG4 := Lib.hid (hg4 g2' rfl); have HO4 := Lib.hid hown4; have HAT4 := Lib.hid hat4; have HB4 := Lib.hid hb4; rw [rts_length, HLG.out]; clear hown4 hat4 hg4 hb4; have hz4 : wr.heap.size ≤ w3.heap.size := (by have := HG4.out.size; simp at this; omega); have HO14 := Lib.hid (own_ne2 (HPP.out.own1.alloc _) HG4.out HPP.out.ne))
                | (at_builtin; refine wpList_one_more rfl (.tmp 77) (.tmp 79) rfl _ w.heap.size g1' c1' (szs ((s2, r2) :: st2)) (by rw [szs_length, HLG.out]; rfl) _ _ (s' : Int) rfl (HO14.out.alloc _) (one_new _ _) (by rw [szs_length, HLG.out]; omega) (by simp; omega) ?_; intro v w5 hA; obtain ⟨⟨g5, c5, rfl, hown5, hat5⟩, hg5, hb5⟩ := hA; have HG5 := Lib.hid (hg5 g1' rfl); have HO5 := Lib.hid hown5; have HAT5 := Lib.hid hat5; have HB5 := Lib.hid hb5; rw [szs_length, HLG.out]; clear hown5 hat5 hg5 hb5))
              go_roundw
              case rel =>
                have hP := HPP.out
                have hM := HM.out
                have hl1 := own_lt2 hP.own1
                have hl2 := own_lt2 hP.own2
                have hl4 := own_lt2 HO4.out
                have hg41 : g4 ≠ g1' := by
                  rcases HAT4.out with e | e
                  · injection e with e; injection e with e _ _; have := hP.ne; omega
                  · simp at e; omega
                have hg45 : g5 ≠ g4 := by
                  rcases HAT5.out with e | e
                  · injection e with e; injection e with e _ _; omega
                  · simp at e; omega
                refine ⟨g5, c5, g4, c4, pushS pairZ at1 st q.1 q.2, k + 1, at1, by omega, ?_, ?_, rfl, by go_num, by omega, ?_⟩
                · rw [HTG.out, List.length_cons, HLG.out]
                · rw [HTG.out, List.length_cons, HLG.out]
                · have htot : totS (ts.drop k) = q.1 + totS (ts.drop (k + 1)) := by rw [HDR.out]; rfl
                  refine ⟨?_, ?_, hg45, ?_, ?_, ?_, ?_, ?_, ?_⟩
                  · rw [HTG.out, szs_cons]; exact HO5.out
                  · rw [HTG.out, rts_cons]; exact own_ne2 (HO4.out.alloc _) HG5.out hg41
                  · exact ((((hP.below.alloc (by omega) _).trans HB4.out).alloc (by omega) _).trans HB5.out)
                  · rw [← hM.rest, HDR.out, ← HAT1.out]; rfl
                  · exact pushS_digs _ _ _ _ hM.digs (HD.out q (by rw [← List.take_append_drop k ts, HDR.out]; simp))
                  · rw [pushS_tot, hM.tot]; exact HAT1.out
                  · have := hM.all; have h2 := HAT1.out; omega
                  · have := pushS_length at1 st q.1 q.2; have h2 := hM.short; omega
              case measure => simp [intOf]; omega
          · have hbb : ((s2 : Int) == (s' : Int)) = false := by rw [beq_eq_false_iff_ne]; omega
            have HTG : Hid (pushS pairZ at1 st q.1 q.2 = (s', r') :: (s2, r2) :: st2) := by
              show _ = _
              rw [← HPP.out.push]
              show (if s2 = s' ∧ (at1 - 2 * s') % (2 * s') = 0 then _ else _) = _
              rw [if_neg (fun h => heq h.1)]
            clear heq htt
            have hb0 : w.heap.size ≤ wr.heap.size := HPP.out.below.size
            go_wp2_with (first
              | (at_builtin; refine wpList_one_more rfl (.tmp 73) (.tmp 75) rfl _ w.heap.size g2' c2' (rts ((s2, r2) :: st2)) (by rw [rts_length, HLG.out]; rfl) _ _ r' rfl (HPP.out.own2.alloc _) (one_new _ _) (by rw [rts_length, HLG.out]; omega) (by simp; omega) ?_; intro v w3 hA; obtain ⟨⟨g4, c4, rfl, hown4, hat4⟩, hg4, hb4⟩ := hA; have HG4 := Lib.hid (hg4 g2' rfl); have HO4 := Lib.hid hown4; have HAT4 := Lib.hid hat4; have HB4 := Lib.hid hb4; rw [rts_length, HLG.out]; clear hown4 hat4 hg4 hb4; have hz4 : wr.heap.size ≤ w3.heap.size := (by have := HG4.out.size; simp at this; omega); have HO14 := Lib.hid (own_ne2 (HPP.out.own1.alloc _) HG4.out HPP.out.ne))
              | (at_builtin; refine wpList_one_more rfl (.tmp 77) (.tmp 79) rfl _ w.heap.size g1' c1' (szs ((s2, r2) :: st2)) (by rw [szs_length, HLG.out]; rfl) _ _ (s' : Int) rfl (HO14.out.alloc _) (one_new _ _) (by rw [szs_length, HLG.out]; omega) (by simp; omega) ?_; intro v w5 hA; obtain ⟨⟨g5, c5, rfl, hown5, hat5⟩, hg5, hb5⟩ := hA; have HG5 := Lib.hid (hg5 g1' rfl); have HO5 := Lib.hid hown5; have HAT5 := Lib.hid hat5; have HB5 := Lib.hid hb5; rw [szs_length, HLG.out]; clear hown5 hat5 hg5 hb5))
            go_roundw
            case rel =>
              have hP := HPP.out
              have hM := HM.out
              have hl1 := own_lt2 hP.own1
              have hl2 := own_lt2 hP.own2
              have hl4 := own_lt2 HO4.out
              have hg41 : g4 ≠ g1' := by
                rcases HAT4.out with e | e
                · injection e with e; injection e with e _ _; have := hP.ne; omega
                · simp at e; omega
              have hg45 : g5 ≠ g4 := by
                rcases HAT5.out with e | e
                · injection e with e; injection e with e _ _; omega
                · simp at e; omega
              refine ⟨g5, c5, g4, c4, pushS pairZ at1 st q.1 q.2, k + 1, at1, by omega, ?_, ?_, rfl, by go_num, by omega, ?_⟩
              · rw [HTG.out, List.length_cons, HLG.out]
              · rw [HTG.out, List.length_cons, HLG.out]
              · have htot : totS (ts.drop k) = q.1 + totS (ts.drop (k + 1)) := by rw [HDR.out]; rfl
                refine ⟨?_, ?_, hg45, ?_, ?_, ?_, ?_, ?_, ?_⟩
                · rw [HTG.out, szs_cons]; exact HO5.out
                · rw [HTG.out, rts_cons]; exact own_ne2 (HO4.out.alloc _) HG5.out hg41
                · exact ((((hP.below.alloc (by omega) _).trans HB4.out).alloc (by omega) _).trans HB5.out)
                · rw [← hM.rest, HDR.out, ← HAT1.out]; rfl
                · exact pushS_digs _ _ _ _ hM.digs (HD.out q (by rw [← List.take_append_drop k ts, HDR.out]; simp))
                · rw [pushS_tot, hM.tot]; exact HAT1.out
                · have := hM.all; have h2 := HAT1.out; omega
                · have := pushS_length at1 st q.1 q.2; have h2 := hM.short; omega
            case measure => simp [intOf]; omega
    · have hkn : k = n := by omega
      subst hkn
      have hr := HM.out.rest
      rw [List.drop_eq_nil_of_le (by rw [HT.out]; omega)] at hr
      have HRR : Hid (rts st = mergeS pairZ ss rs) := by
        show _ = _
        unfold mergeS rts
        rw [HTS.out, ← hr]
        cases st <;> rfl
      clear hr
      go_wp2
      go_ret
      refine ⟨some ⟨g2, 0, none⟩, c2, ?_, ?_, HM.out.below⟩
      · rw [← HRR.out, rts_length]; rfl
      · rw [← HRR.out]; exact HM.out.own2

end Go.Proofs.YtlpdoieiiadhhaaDoor

namespace Go.Proofs.YtlpdoieiiadhhaaDoor
open Go.RowKit
set_option linter.unusedVariables false

theorem look_pos : allMN (fun m n => (growSizes m n).all fun x => decide (1 ≤ x)) = true := by decide +kernel

set_option maxHeartbeats 4000000 in
set_option maxRecDepth 100000 in
theorem sgcheck_yes (m n : Nat) (old digest : Int) (A : Option Addr) (cap : Nat) (zs : List Int) (w : World) (hI : IntsAt w w.heap.size A zs) (hcap : zs.length ≤ cap) (hmax : cap ≤ maxLen) (hn : n ≤ 16) (hm : m ≤ n) (hd : digB zs = true) :
    Calls Tryd.prog 92 #[.int .i64 (m : Int), .int .i64 old, .int .i64 (n : Int), .int .i64 digest, .slice A zs.length cap] w fun e w' => e = .returned (.bool (growB m n old digest zs)) ∧ Below w.heap.size w w' := by
  have HI := Lib.hid hI
  have HM := Lib.hid (Nat.le_trans hcap hmax)
  have HD := Lib.hid hd
  have HDD := Lib.hid (digB_yes hd)
  have hzl : zs.length ≤ 9223372036854775807 := by have := Nat.le_trans hcap hmax; unfold maxLen at this; omega
  have hl9 := growSizes_le hn hm
  obtain ⟨S1, HS1⟩ : ∃ l, Hid (sizesOf 0 m = l) := ⟨_, rfl⟩
  obtain ⟨SS, HGS⟩ : ∃ l, Hid (growSizes m n = l) := ⟨_, rfl⟩
  have hl1 : S1.length ≤ SS.length := by rw [← HGS.out, ← HS1.out]; unfold growSizes; rw [List.length_append]; omega
  rw [HGS.out] at hl9
  have hc63 := hmax
  unfold maxLen at hc63
  have HCC := Lib.hid hcap
  clear hI hmax hd
  go_enter Tryd.func92, Tryd.ntmps92
  go_wp2_with fail
  refine (in_yes _ _ _ _ (by omega) (by omega)).mono ?_
  rintro e w' ⟨rfl, rfl⟩
  go_wp2_with fail
  refine (in_yes _ _ _ _ (by omega) (by omega)).mono ?_
  rintro e w' ⟨rfl, rfl⟩
  go_wp2_with fail
  refine (sdig2_any _ _ zs _ HI.out HM.out).mono ?_
  rintro e w' ⟨rfl, rfl⟩
  rw [HD.out]
  go_wp2_with fail
  refine (ssizes_any m n _ hn hm).mono ?_
  rintro e w3 ⟨A3, c3, rfl, hown3, hb3⟩
  rw [HGS.out] at hown3 ⊢
  rw [HS1.out]
  have HO3 := Lib.hid hown3
  have HB3 := Lib.hid hb3
  clear hown3 hb3
  by_cases hlen : zs.length = SS.length
  · have hlb : ((zs.length : Int) != (SS.length : Int)) = false := by simp [hlen]
    have HLE := Lib.hid hlen
    have hki : (S1.length : Int) ≤ (zs.length : Int) := by omega
    have hki2 : (S1.length : Int) ≤ (cap : Int) := by omega
    have hki3 : (zs.length : Int) ≤ (cap : Int) := by omega
    have hlt : (zs.take S1.length).length = S1.length := by rw [List.length_take]; omega
    obtain ⟨f1, HF1⟩ : ∃ f, Hid (foldZ m (zs.take S1.length) = f) := ⟨_, rfl⟩
    have CP : Hid (Calls Tryd.prog 106 #[.int .i64 (m : Int), .slice A S1.length cap] w3 fun e w' => e = .returned (.int .i64 f1) ∧ w3 = w') := by
      have := sfold_any (m : Int) A cap (zs.take S1.length) w3 ((HI.out.belowS HB3.out).first S1.length) (by rw [hlt]; unfold maxLen; omega) (by omega) (by omega) (HDD.out.take _)
      rw [hlt, HF1.out] at this
      exact this
    clear hlt hlen
    go_wp2_with fail
    refine CP.out.mono ?_
    rintro e w' ⟨rfl, rfl⟩
    by_cases hold : f1 = old
    · have hob : (f1 == old) = true := by rw [beq_iff_eq]; exact hold
      have HOLD := Lib.hid hold
      clear hold
      have CM : Hid (Calls Tryd.prog 114 #[.slice A3 SS.length c3, .slice A zs.length cap] w3 (RetInts w3 (mergeZ SS zs))) := by
        have hsum := of_decide_eq_true (allMN_get look_sum hn hm)
        have hpos := allMN_get look_pos hn hm
        rw [HGS.out] at hsum hpos
        have := smerge_any A3 c3 SS A cap zs w3 HO3.out.ints (HI.out.belowS HB3.out) HLE.out HDD.out (by rw [tot_zip SS zs HLE.out, hsum]; omega) (fun x hx => of_decide_eq_true (List.all_eq_true.1 hpos x hx)) (by omega)
        have hms := merge_same m n zs hn hm (by rw [HGS.out]; exact HLE.out)
        rw [HGS.out] at hms
        rw [hms] at this
        exact this
      go_wp2_with fail
      refine CM.out.mono ?_
      rintro e w5 ⟨A5, c5, rfl, hown5, hb5⟩
      have HO5 := Lib.hid hown5
      have HB5 : Hid (Below w.heap.size w w5) := HB3.out.trans (hb5.mono HB3.out.size)
      clear hown5 hb5
      obtain ⟨f2, HF2⟩ : ∃ f, Hid (foldZ n (mergeZ SS zs) = f) := ⟨_, rfl⟩
      go_wp2_with fail
      refine (sfold_any (n : Int) A5 c5 (mergeZ SS zs) _ HO5.out.ints (Nat.le_trans HO5.out.le.1 HO5.out.le.2) (by omega) (by omega) (mergeZ_digs SS zs HDD.out)).mono ?_
      rintro e w' ⟨rfl, rfl⟩
      rw [HF2.out]
      have HRES : Hid (growB m n old digest zs = (f2 == digest)) := by
        show _ = _
        unfold growB
        rw [HGS.out, HS1.out, HF1.out, HF2.out, decide_eq_true HLE.out, decide_eq_true HOLD.out]
        simp
        rw [Bool.eq_iff_iff]; simp
      go_wp2
      go_ret
      exact ⟨ret_bool (by rw [HRES.out]), HB5.out⟩
    · have hob : (f1 == old) = false := by rw [beq_eq_false_iff_ne]; exact hold
      have HRES : Hid (growB m n old digest zs = false) := by
        show _ = _
        unfold growB
        rw [HGS.out, HS1.out, HF1.out, decide_eq_false hold]
        simp
      clear hold
      go_wp2
      go_ret
      exact ⟨ret_bool (by rw [HRES.out]), HB3.out⟩
  · have hlb : ((zs.length : Int) != (SS.length : Int)) = true := by rw [bne_iff_ne]; omega
    have HRES : Hid (growB m n old digest zs = false) := by
      show _ = _
      unfold growB
      rw [HGS.out, decide_eq_false hlen]
      rfl
    clear hlen
    go_wp2
    go_ret
    exact ⟨ret_bool (by rw [HRES.out]), HB3.out⟩

set_option maxHeartbeats 1000000 in
theorem sgcheck_nod (m n : Nat) (old digest : Int) (A : Option Addr) (cap : Nat) (zs : List Int) (w : World) (hI : IntsAt w w.heap.size A zs) (hcap : zs.length ≤ cap) (hmax : cap ≤ maxLen) (hn : n ≤ 16) (hm : m ≤ n) (hd : digB zs = false) :
    Calls Tryd.prog 92 #[.int .i64 (m : Int), .int .i64 old, .int .i64 (n : Int), .int .i64 digest, .slice A zs.length cap] w fun e w' => e = .returned (.bool false) ∧ Below w.heap.size w w' := by
  have HI := Lib.hid hI
  have HM := Lib.hid (Nat.le_trans hcap hmax)
  have HD := Lib.hid hd
  clear hI hcap hmax hd
  go_enter Tryd.func92, Tryd.ntmps92
  go_wp2_with fail
  refine (in_yes _ _ _ _ (by omega) (by omega)).mono ?_
  rintro e w' ⟨rfl, rfl⟩
  go_wp2_with fail
  refine (in_yes _ _ _ _ (by omega) (by omega)).mono ?_
  rintro e w' ⟨rfl, rfl⟩
  go_wp2_with fail
  refine (sdig2_any _ _ zs _ HI.out HM.out).mono ?_
  rintro e w' ⟨rfl, rfl⟩
  rw [HD.out]
  go_wp2
  go_ret
  exact ⟨rfl, Below.refl _ _⟩

set_option maxHeartbeats 1000000 in
theorem sgcheck_no (m n : Int) (old digest : Int) (A : Option Addr) (cap : Nat) (zs : List Int) (w : World) (hno : ¬ (0 ≤ n ∧ n ≤ 16 ∧ 0 ≤ m ∧ m ≤ n)) :
    Calls Tryd.prog 92 #[.int .i64 m, .int .i64 old, .int .i64 n, .int .i64 digest, .slice A zs.length cap] w fun e w' => e = .returned (.bool false) ∧ Below w.heap.size w w' := by
  by_cases h1 : 0 ≤ n ∧ n ≤ 16
  · have HMN : Hid (¬ (0 ≤ m ∧ m ≤ n)) := fun h => hno ⟨h1.1, h1.2, h.1, h.2⟩
    obtain ⟨h10, h11⟩ := h1
    clear hno
    go_enter Tryd.func92, Tryd.ntmps92
    go_wp2_with fail
    refine (in_yes _ _ _ _ h10 h11).mono ?_
    rintro e w' ⟨rfl, rfl⟩
    go_wp2_with fail
    refine (in_no _ _ _ _ HMN.out).mono ?_
    rintro e w' ⟨rfl, rfl⟩
    go_wp2
    go_ret
    exact ⟨rfl, Below.refl _ _⟩
  · have HNN := Lib.hid h1
    clear hno h1
    go_enter Tryd.func92, Tryd.ntmps92
    go_wp2_with fail
    refine (in_no _ _ _ _ HNN.out).mono ?_
    rintro e w' ⟨rfl, rfl⟩
    go_wp2
    go_ret
    exact ⟨rfl, Below.refl _ _⟩

theorem sgcheck_any (zs : List Int) (m old n digest : Int) (A : Option Addr) (cap : Nat) (w : World) (hI : IntsAt w w.heap.size A zs) (hcap : zs.length ≤ cap) (hmax : cap ≤ maxLen) :
    Calls Tryd.prog 92 #[.int .i64 m, .int .i64 old, .int .i64 n, .int .i64 digest, .slice A zs.length cap] w fun e w' => e = .returned (.bool (growOkB m old n digest zs)) ∧ Below w.heap.size w w' := by
  by_cases h : 0 ≤ n ∧ n ≤ 16 ∧ 0 ≤ m ∧ m ≤ n
  · obtain ⟨k, rfl⟩ := Int.eq_ofNat_of_zero_le h.1
    obtain ⟨j, rfl⟩ := Int.eq_ofNat_of_zero_le h.2.2.1
    cases hd : digB zs with
    | true => rw [growOkB_yes (by omega) (by omega) hd]; exact sgcheck_yes j k old digest A cap zs w hI hcap hmax (by omega) (by omega) hd
    | false => rw [growOkB_nod hd]; exact sgcheck_nod j k old digest A cap zs w hI hcap hmax (by omega) (by omega) hd
  · rw [growOkB_no h]; exact sgcheck_no m n old digest A cap zs w h

end Go.Proofs.YtlpdoieiiadhhaaDoor

namespace Go.Proofs.YtlpdoieiiadhhaaDoor
open Go.RowKit
set_option linter.unusedVariables false

def growthOr (zs : List Int) (m : Int) : List Int := if leavesB zs = true ∧ 0 ≤ m ∧ m ≤ zs.length then growthZ zs m.toNat else []
theorem growthOr_yes {zs : List Int} {m : Nat} (h : leavesB zs = true) (hm : m ≤ zs.length) : growthOr zs (m : Int) = growthZ zs m := by
  unfold growthOr
  rw [if_pos ⟨h, by omega, by omega⟩, Int.toNat_natCast]
theorem growthOr_no {zs : List Int} {m : Int} (h : ¬ (leavesB zs = true ∧ 0 ≤ m ∧ m ≤ zs.length)) : growthOr zs m = [] := by unfold growthOr; rw [if_neg h]
theorem cover_short (zs : List Int) (s : Nat) : (coverZ zs s).length ≤ 17 := by rw [coverG_length, sizesOf_length]; exact places_length_le s zs.length

set_option maxHeartbeats 1000000 in
theorem sgrowth_no (zs : List Int) (b o cap : Nat) (m : Int) (w : World) (hI : IntsAt w w.heap.size (some ⟨b, o, none⟩) zs) (hcap : zs.length ≤ cap) (hmax : cap ≤ maxLen) (hno : ¬ (leavesB zs = true ∧ 0 ≤ m ∧ m ≤ zs.length)) :
    Calls Tryd.prog 40 #[.slice (some ⟨b, o, none⟩) zs.length cap, .int .i64 m] w (RetInts w []) := by
  have HI := Lib.hid hI
  have HM := Lib.hid (Nat.le_trans hcap hmax)
  have HNO := Lib.hid hno
  clear hI hmax hcap hno
  cases hv : leavesB zs with
  | true =>
    have HV := Lib.hid hv
    have HMO : Hid (¬ (0 ≤ m ∧ m ≤ zs.length)) := fun h => HNO.out ⟨hv, h.1, h.2⟩
    clear hv
    go_enter Tryd.func40, Tryd.ntmps40
    go_wp2_with fail
    refine (sdigs_any _ _ zs _ HI.out HM.out).mono ?_
    rintro e w' ⟨rfl, rfl⟩
    rw [HV.out]
    go_wp2_with fail
    refine (in_no _ _ _ _ HMO.out).mono ?_
    rintro e w' ⟨rfl, rfl⟩
    go_wp2
    go_ret
    exact ⟨_, _, rfl, OwnInts.new w, (Below.refl _ _).alloc (Nat.le_refl _) _⟩
  | false =>
    have HV := Lib.hid hv
    clear hv
    go_enter Tryd.func40, Tryd.ntmps40
    go_wp2_with fail
    refine (sdigs_any _ _ zs _ HI.out HM.out).mono ?_
    rintro e w' ⟨rfl, rfl⟩
    rw [HV.out]
    go_wp2
    go_ret
    exact ⟨_, _, rfl, OwnInts.new w, (Below.refl _ _).alloc (Nat.le_refl _) _⟩

set_option maxHeartbeats 1000000 in
theorem sgrowth_yes (zs : List Int) (b o cap m : Nat) (w : World) (hI : IntsAt w w.heap.size (some ⟨b, o, none⟩) zs) (hcap : zs.length ≤ cap) (hmax : cap ≤ maxLen) (hv : leavesB zs = true) (hm : m ≤ zs.length) :
    Calls Tryd.prog 40 #[.slice (some ⟨b, o, none⟩) zs.length cap, .int .i64 (m : Int)] w (RetInts w (growthZ zs m)) := by
  have HI := Lib.hid hI
  have HMX := Lib.hid hmax
  have HC := Lib.hid hcap
  have HM := Lib.hid (Nat.le_trans hcap hmax)
  obtain ⟨h16, hd⟩ := leavesB_yes hv
  have HV := Lib.hid hv
  have HD := Lib.hid hd
  have hlt : (zs.take m).length = m := by rw [List.length_take]; omega
  have C1 : Hid (Calls Tryd.prog 88 #[.slice (some ⟨b, o, none⟩) m cap, .int .i64 0] w (RetInts w (coverZ (zs.take m) 0))) := by
    have := scover_any (zs.take m) b o cap 0 w (hI.first m) (by omega) (by omega) hmax (hd.take m) (by omega)
    rw [hlt] at this
    exact this
  unfold maxLen at hmax
  have hi1 : (m : Int) ≤ (zs.length : Int) := by omega
  have hi2 : (m : Int) ≤ (cap : Int) := by omega
  have hs1 := cover_short (zs.take m) 0
  have hs2 := cover_short zs m
  clear hI hv hd hlt
  go_enter Tryd.func40, Tryd.ntmps40
  go_wp2_with fail
  refine (sdigs_any _ _ zs _ HI.out HM.out).mono ?_
  rintro e w' ⟨rfl, rfl⟩
  rw [HV.out]
  go_wp2_with fail
  refine (in_yes _ _ _ _ (by omega) (by omega)).mono ?_
  rintro e w' ⟨rfl, rfl⟩
  go_wp2_with fail
  refine C1.out.mono ?_
  rintro e w1 ⟨A1, c1, rfl, hown1, hb1⟩
  have HO1 := Lib.hid hown1
  have HB1 := Lib.hid hb1
  clear hown1 hb1
  go_wp2_with fail
  refine (scover_any zs b o cap m _ (HI.out.belowS HB1.out) h16 HC.out HMX.out HD.out hm).mono ?_
  rintro e w2 ⟨A2, c2, rfl, hown2, hb2⟩
  have HO2 := Lib.hid hown2
  have HO12 := Lib.hid (HO1.out.below hb2)
  have HB2 : Hid (Below w.heap.size w w2) := HB1.out.trans (hb2.mono HB1.out.size)
  clear hown2 hb2
  have hz2 : w.heap.size ≤ w2.heap.size := HB2.out.size
  go_wp2_with (at_builtin; refine wpList_app_ints rfl (.tmp 19) (.tmp 22) rfl _ w.heap.size A1 c1 (coverZ (zs.take m) 0) rfl A2 c2 (coverZ zs m) rfl HO12.out HO2.out.ints (by omega) hz2 HO2.out.none0 ?_; intro v w3 hA; obtain ⟨⟨A3, c3, rfl, hown3⟩, hg3, hb3⟩ := hA; have HO3 := Lib.hid hown3; have HB3 : Hid (Below w.heap.size w w3) := HB2.out.trans hb3; clear hown3 hg3 hb3)
  go_ret
  exact ⟨A3, c3, by simp [growthZ, growthG, coverZ], HO3.out, HB3.out⟩

theorem sgrowth_any (zs : List Int) (m : Int) (b o cap : Nat) (w : World) (hI : IntsAt w w.heap.size (some ⟨b, o, none⟩) zs) (hcap : zs.length ≤ cap) (hmax : cap ≤ maxLen) :
    Calls Tryd.prog 40 #[.slice (some ⟨b, o, none⟩) zs.length cap, .int .i64 m] w (RetInts w (growthOr zs m)) := by
  by_cases h : leavesB zs = true ∧ 0 ≤ m ∧ m ≤ zs.length
  · obtain ⟨k, rfl⟩ := Int.eq_ofNat_of_zero_le h.2.1
    rw [growthOr_yes h.1 (by omega)]
    exact sgrowth_yes zs b o cap k w hI hcap hmax h.1 (by omega)
  · rw [growthOr_no h]
    exact sgrowth_no zs b o cap m w hI hcap hmax h

theorem RootsAt.append {w : World} {gs hs : List Nat} {rs ss : List Int} (h : RootsAt w gs rs) (k : RootsAt w hs ss) : RootsAt w (gs ++ hs) (rs ++ ss) := by
  refine ⟨by rw [List.length_append, List.length_append, h.same, k.same], fun j hj => ?_⟩
  rw [List.length_append] at hj
  unfold gth nth
  rw [List.getD_eq_getElem?_getD, List.getD_eq_getElem?_getD]
  by_cases c : j < gs.length
  · rw [List.getElem?_append_left c, List.getElem?_append_left (by rw [← h.same]; exact c)]
    have := h.node j c
    unfold gth nth at this
    rw [List.getD_eq_getElem?_getD, List.getD_eq_getElem?_getD] at this
    exact this
  · rw [List.getElem?_append_right (by omega), List.getElem?_append_right (by rw [← h.same]; omega), ← h.same]
    have := k.node (j - gs.length) (by omega)
    unfold gth nth at this
    rw [List.getD_eq_getElem?_getD, List.getD_eq_getElem?_getD] at this
    exact this
theorem OwnPtrs.none0 {w : World} {base : Nat} {A : Option Addr} {cap : Nat} {zs : List Nat} (h : OwnPtrs w base A cap zs) : A = none → cap = 0 := by
  intro hA
  subst hA
  rcases h.2 with ⟨hv, _⟩ | ⟨g, c, cur, hv, _⟩
  · injection hv
  · injection hv with hA _ _; cases hA







end Go.Proofs.YtlpdoieiiadhhaaDoor
