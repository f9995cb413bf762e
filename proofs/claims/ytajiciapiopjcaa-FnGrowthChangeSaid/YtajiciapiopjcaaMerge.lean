/- Contract of mergeTrees: the peaks that trees of known sizes merge into. Conditions: the sizes add up to at most 16; the roots are digests. -/
import Derived.Test.YtajiciapiopjcaaKnown
namespace Go.Proofs.Ytajiciapiopjcaa
open Go.RowKit
set_option linter.unusedVariables false

def totS : List (Nat × Int) → Nat
  | [] => 0
  | p :: l => p.1 + totS l
def DigsP (l : List (Nat × Int)) : Prop := ∀ p ∈ l, 0 ≤ p.2 ∧ p.2 < 991
theorem pushG_tot : ∀ (st : List (Nat × Int)) (s : Nat) (t : Int), totS (pushG pairZ st s t) = totS st + s := by
  intro st
  induction st with
  | nil => intro s t; show s + 0 = 0 + s; omega
  | cons p st ih =>
    intro s t
    obtain ⟨s', t'⟩ := p
    show totS (if s' = s then pushG pairZ st (s' + s) (pairZ t' t) else (s, t) :: (s', t') :: st) = s' + totS st + s
    by_cases c : s' = s
    · rw [if_pos c, ih]; omega
    · rw [if_neg c]; show s + (s' + totS st) = _; omega
theorem pushG_digs : ∀ (st : List (Nat × Int)) (s : Nat) (t : Int), DigsP st → (0 ≤ t ∧ t < 991) → DigsP (pushG pairZ st s t) := by
  intro st
  induction st with
  | nil => intro s t _ h p hp; have : p = (s, t) := by simpa [pushG] using hp
           subst this; exact h
  | cons p st ih =>
    intro s t hd h
    obtain ⟨s', t'⟩ := p
    show DigsP (if s' = s then pushG pairZ st (s' + s) (pairZ t' t) else (s, t) :: (s', t') :: st)
    by_cases c : s' = s
    · rw [if_pos c]; exact ih _ _ (fun p hp => hd p (List.mem_cons_of_mem _ hp)) (pairZ_bd _ _)
    · rw [if_neg c]
      intro p hp
      rcases List.mem_cons.1 hp with e | e
      · subst e; exact h
      · exact hd p e
def sliceLen : Value → Nat
  | .slice _ n _ => n
  | _ => 0

structure PushAt (w : World) (tgt : List (Nat × Int)) (A : Option Addr) (c : Nat) (gs : List Nat) (st : List (Nat × Int)) (g : Nat) (r : Int) (s : Nat) (w' : World) : Prop where
  own : OwnPtrs w' w.heap.size A c gs
  below : Below w.heap.size w w'
  nodes : NodesAt w' gs st.reverse
  node : ∃ x y, Node w' g r s x y
  push : pushG pairZ st s r = tgt
  dig : 0 ≤ r ∧ r < 991
  digs : DigsP st
  tot : totS st + s ≤ 16
  short : st.length ≤ 40
theorem PushAt.drewN {w : World} {tgt : List (Nat × Int)} {A : Option Addr} {c : Nat} {gs : List Nat} {st : List (Nat × Int)} {g : Nat} {r : Int} {s : Nat} {w' : World} (h : PushAt w tgt A c gs st g r s w') (n : Nat) : PushAt w tgt A c gs st g r s (w'.drewN n) :=
  ⟨h.own, below_drewN h.below n, h.nodes.kept (Kept.drewN _ n), h.node, h.push, h.dig, h.digs, h.tot, h.short⟩

structure MergeAt (w : World) (ts : List (Nat × Int)) (A : Option Addr) (c : Nat) (gs : List Nat) (st : List (Nat × Int)) (k : Nat) (w' : World) : Prop where
  own : OwnPtrs w' w.heap.size A c gs
  below : Below w.heap.size w w'
  nodes : NodesAt w' gs st.reverse
  rest : mergeGo pairZ st (ts.drop k) = mergeGo pairZ [] ts
  digs : DigsP st
  tot : totS st + totS (ts.drop k) ≤ 16
  pos : st.length ≤ k

theorem pushG_length : ∀ (st : List (Nat × Int)) (s : Nat) (t : Int), (pushG pairZ st s t).length ≤ st.length + 1 := by
  intro st
  induction st with
  | nil => intro s t; exact Nat.le_refl _
  | cons p st ih =>
    intro s t
    obtain ⟨s', t'⟩ := p
    show (if s' = s then pushG pairZ st (s' + s) (pairZ t' t) else (s, t) :: (s', t') :: st).length ≤ _
    by_cases c : s' = s
    · rw [if_pos c]; have := ih (s' + s) (pairZ t' t); simp; omega
    · rw [if_neg c]; simp
theorem own_short {w : World} {gs : List Nat} {st : List (Nat × Int)} (h : NodesAt w gs st.reverse) : gs.length = st.length := by rw [h.same, List.length_reverse]

set_option maxHeartbeats 4000000 in
set_option maxRecDepth 100000 in
theorem merge_any (B : Option Addr) (cb : Nat) (hs : List Nat) (ts : List (Nat × Int)) (w : World) (hP : PtrsAt w w.heap.size B hs) (hN : NodesAt w hs ts) (hd : DigsP ts) (ht : totS ts ≤ 16) (hm : ts.length ≤ 40) :
    Calls Try.prog 42 #[.slice B hs.length cb] w (RetNodes w (mergeGo pairZ [] ts).reverse) := by
  have HP := Lib.hid hP
  have HN := Lib.hid hN
  have HD := Lib.hid hd
  obtain ⟨n, HL⟩ : ∃ n, Hid (hs.length = n) := ⟨_, rfl⟩
  have HT : Hid (ts.length = n) := by show _ = _; rw [← hN.same]; exact HL.out
  rw [HT.out] at hm
  rw [HL.out]
  clear hP hN hd
  go_enter Try.func42, Try.ntmps42
  go_wp2
  go_loopw [3, 8] (fun x ix w' => ∃ (A : Option Addr) (c : Nat) (gs : List Nat) (st : List (Nat × Int)) (k : Nat), k ≤ n ∧ x = .slice A gs.length c ∧ ix = .int .i64 k ∧ Hid (MergeAt w ts A c gs st k w')) (fun _ ix _ => n - (intOf ix).toNat)
  case atStart =>
    refine ⟨none, 0, [], [], 0, by omega, rfl, rfl, ?_⟩
    exact ⟨World.ownsRow_nil _ _ _ _, Below.refl _ _, NodesAt.nil _, rfl, (fun p hp => by cases hp), (by show 0 + totS ts ≤ 16; omega), by simp⟩
  case round =>
    obtain ⟨A, c, gs, st, k, hk, rfl, rfl, HM⟩ := hrel
    by_cases hlt : k < n
    · have hkh : k < hs.length := by rw [HL.out]; exact hlt
      have hkt : k < ts.length := by rw [HT.out]; exact hlt
      obtain ⟨b, o, rfl, hb, hcell⟩ := (HP.out.below HM.out.below (Nat.le_refl _)) (by omega)
      have hck := hcell k hkh
      obtain ⟨g, HG⟩ : ∃ g, Hid (gth hs k = g) := ⟨_, rfl⟩
      rw [HG.out] at hck
      obtain ⟨q, HQ⟩ : ∃ q : Nat × Int, Hid (ts.getD k (0, 0) = q) := ⟨_, rfl⟩
      have hnode := HN.out.node k hkh
      rw [HG.out, HQ.out] at hnode
      have hdrop : ts.drop k = q :: ts.drop (k + 1) := by
        rw [List.drop_eq_getElem_cons hkt]
        have := HQ.out
        rw [List.getD_eq_getElem?_getD, List.getElem?_eq_getElem hkt] at this
        simp at this
        rw [this]
      have hqm : q ∈ ts := by rw [← List.take_append_drop k ts, hdrop]; simp
      have HPA : Hid (PushAt w (pushG pairZ st q.1 q.2) A c gs st g q.2 q.1 wr) := by
        have hM := HM.out
        obtain ⟨x, y, hn⟩ := hnode
        have ht := hM.tot
        rw [hdrop] at ht
        have ht2 : totS (q :: ts.drop (k + 1)) = q.1 + totS (ts.drop (k + 1)) := rfl
        exact ⟨hM.own, hM.below, hM.nodes, ⟨x, y, Kept.of_below hM.below _ _ _ _ _ hn⟩, rfl, HD.out q hqm, hM.digs, by omega, by have := hM.pos; omega⟩
      have HDR := Lib.hid hdrop
      clear hcell hnode hdrop hkh hkt hqm
      go_wp2
      go_loopw [3, 5] (fun x y w' => ∃ (A' : Option Addr) (c' : Nat) (gs' : List Nat) (st' : List (Nat × Int)) (g' : Nat) (r' : Int) (s' : Nat), x = .slice A' gs'.length c' ∧ y = .pointer (some ⟨g', 0, none⟩) ∧ Hid (PushAt w (pushG pairZ st q.1 q.2) A' c' gs' st' g' r' s' w')) (fun x _ _ => sliceLen x)
      case atStart => exact ⟨A, c, gs, st, g, q.2, q.1, rfl, rfl, HPA⟩
      case round =>
        obtain ⟨A', c', gs', st', g', r', s', rfl, rfl, HPP⟩ := hrel
        have hgl : gs'.length = st'.length := own_short HPP.out.nodes
        have hst' : st'.length ≤ 40 := HPP.out.short
        cases st' with
        | nil =>
          have HLG : Hid (gs'.length = 0) := hgl
          rw [HLG.out]
          have HTG : Hid (pushG pairZ st q.1 q.2 = [(s', r')]) := by show _ = _; rw [← HPP.out.push]; rfl
          clear hgl hst'
          go_wp2_with fail
          go_quiet (fail)
          have HPW := Lib.hid (HPP.out.drewN nq)
          obtain ⟨W, HW⟩ : ∃ W, Hid (wr.drewN nq = W) := ⟨_, rfl⟩
          rw [HW.out] at HPW ⊢
          have hb0 : w.heap.size ≤ W.heap.size := HPW.out.below.size
          go_wp2_with (at_builtin; refine wpList_app_ptrs rfl (.tmp 44) (.tmp 46) rfl _ w.heap.size A' c' gs' (by rw [HLG.out]; rfl) _ _ [g'] rfl (HPW.out.own.alloc _) (one_newP _ _) (by rw [HLG.out]; simp <;> omega) (by simp; omega) (by simp) ?_; intro v w3 hA; have HKA := Lib.hid (Kept.appended (n := 0) (HPW.out.own.alloc _) hA); obtain ⟨⟨A3, c3, rfl, hown3⟩, hg3, hb3⟩ := hA; have HO3 := Lib.hid hown3; have HB3 := Lib.hid hb3; clear hown3 hg3 hb3)
          go_wp2
          go_roundw
          case rel =>
            have hP := HPW.out
            have hM := HM.out
            refine ⟨A3, c3, gs' ++ [g'], pushG pairZ st q.1 q.2, k + 1, by omega, by simp, by go_num, ?_⟩
            have hkept : Kept W w3 := (Kept.alloc W _).trans HKA.out
            obtain ⟨x, y, hnd⟩ := hP.node
            have htot : totS (ts.drop k) = q.1 + totS (ts.drop (k + 1)) := by rw [HDR.out]; rfl
            refine ⟨HO3.out, (hP.below.alloc (by omega) _).trans HB3.out, ?_, ?_, ?_, ?_, ?_⟩
            · rw [HTG.out, List.reverse_cons]
              exact (hP.nodes.kept hkept).snoc (hkept _ _ _ _ _ hnd)
            · rw [← hM.rest, HDR.out]; rfl
            · exact pushG_digs _ _ _ hM.digs (HD.out q (by rw [← List.take_append_drop k ts, HDR.out]; simp))
            · rw [pushG_tot]; have := hM.tot; omega
            · have h1 := own_short hP.nodes
              have h2 := hM.pos
              have h3 : (pushG pairZ st q.1 q.2).length ≤ st.length + 1 := pushG_length _ _ _
              omega
          case measure => simp [intOf]; omega
        | cons p st2 =>
          obtain ⟨s2, r2⟩ := p
          obtain ⟨L, HLG⟩ : ∃ L, Hid (gs'.length = L) := ⟨_, rfl⟩
          have hL : L = st2.length + 1 := by rw [← HLG.out, hgl]; rfl
          have hL40 : L ≤ 40 := by rw [hL]; simpa using hst'
          have hL1 : 1 ≤ L := by omega
          obtain ⟨ga, hA'⟩ : ∃ ga, A' = some ⟨ga, 0, none⟩ := by
            obtain ⟨gb, ob, e, _, _⟩ := HPP.out.own.ints (by rw [HLG.out]; omega)
            rcases HPP.out.own.2 with ⟨hv, _⟩ | ⟨g0, c0, cur, hv, _⟩
            · injection hv with hA _ _; rw [hA] at e; cases e
            · injection hv with hA _ _; exact ⟨g0, hA⟩
          subst hA'
          have htop : wr.cell? ⟨ga, L - 1, none⟩ = some (.pointer (some ⟨gth gs' (L - 1), 0, none⟩)) := by
            have h1 := (HPP.out.own.ints.lt (by rw [HLG.out]; omega)).2 (L - 1) (by rw [HLG.out]; omega)
            rw [Nat.zero_add] at h1
            exact h1
          obtain ⟨g2, HG2⟩ : ∃ g2, Hid (gth gs' (L - 1) = g2) := ⟨_, rfl⟩
          rw [HG2.out] at htop
          have hn2 : ∃ x y, Node wr g2 r2 s2 x y := by
            have h1 := HPP.out.nodes.node (L - 1) (by rw [HLG.out]; omega)
            rw [HG2.out] at h1
            have h2 : (((s2, r2) :: st2).reverse).getD (L - 1) (0, 0) = (s2, r2) := by
              rw [List.reverse_cons, getD_snoc, if_neg (by rw [List.length_reverse]; omega), if_pos (by rw [List.length_reverse]; omega)]
            rw [h2] at h1
            exact h1
          obtain ⟨x2, y2, hn2⟩ := hn2
          obtain ⟨x1, y1, hn1⟩ := HPP.out.node
          have d1 := hn2.c1
          have e1 := hn1.c1
          have HN2 := Lib.hid hn2
          have HN1 := Lib.hid hn1
          have htt := HPP.out.tot
          have htt2 : totS ((s2, r2) :: st2) = s2 + totS st2 := rfl
          have hs2 : s2 ≤ 16 := by omega
          have hs1 : s' ≤ 16 := by omega
          clear hn2 hn1 htt htt2 hgl hst'
          rw [HLG.out]
          have HL' := Lib.hid hL
          clear hL
          have hcb := HPP.out.own.le
          rw [HLG.out] at hcb
          have hLc : L ≤ c' := hcb.1
          have hc63 := hcb.2
          unfold maxLen at hc63
          clear hcb
          by_cases heq : s2 = s'
          · have hbb : ((s2 : Int) == (s' : Int)) = true := by rw [beq_iff_eq]; omega
            have HEQ := Lib.hid heq
            have HDP := HPP.out.digs (s2, r2) (by simp)
            obtain ⟨hr20, hr21⟩ := HDP
            obtain ⟨hr10, hr11⟩ := HPP.out.dig
            clear heq
            have wl0 : IntKind.i64.wrap ((L : Int) - 1) = (L : Int) - 1 := IntWalk.i64_in _ (by omega)
            have wl1 : (0 : Int) ≤ (L : Int) - 1 := by omega
            have wl2 : ((L : Int) - 1).toNat = L - 1 := by omega
            have wl3 : (L : Int) - 1 < (L : Int) := by omega
            have wl4 : decide (0 < L) = true := by simp; omega
            have wl5 : 0 < L := by omega
            have wl6 : decide ((0 : Int) < (L : Int)) = true := by simp; omega
            go_wp2_with fail
            go_quiet (fail)
            clear wl0 wl2 wl4 wl5 wl6
            go_wp2_with fail
            refine (pairT_any g2 g' r2 s2 r' s' x2 y2 x1 y1 (wr.drewN nq) (Kept.drewN wr nq _ _ _ _ _ HN2.out) (Kept.drewN wr nq _ _ _ _ _ HN1.out) hr20 hr21 hr10 hr11 (by omega) (by omega) (by omega) (by omega)).mono ?_
            rintro e W3 ⟨g3, rfl, hn3, hg3, hb3⟩
            have HN3 := Lib.hid hn3
            have HB3 := Lib.hid hb3
            clear hn3 hb3 hg3
            have hLi : (L : Int) - 1 ≤ (c' : Int) := by omega
            go_wp2
            go_roundw
            case rel =>
              have hP := HPP.out.drewN nq
              have hb3' : Below wr.heap.size (wr.drewN nq) W3 := HB3.out
              have hk3 : Kept (wr.drewN nq) W3 := Kept.of_below HB3.out
              have hLe := HL'.out
              refine ⟨some ⟨ga, 0, none⟩, c', gs'.take (L - 1), st2, g3, pairZ r2 r', s2 + s', ?_, rfl, ?_⟩
              · rw [List.length_take, HLG.out]; simp <;> omega
              · refine ⟨(hP.own.below HB3.out).cut (L - 1) (by rw [HLG.out]; omega), hP.below.trans (hb3'.mono HPP.out.below.size), ?_, ⟨_, _, by have := HN3.out; rw [show ((s2 + s' : Nat) : Int) = (s2 : Int) + (s' : Int) from by omega]; exact this⟩, ?_, pairZ_bd _ _, (fun p hp => hP.digs p (List.mem_cons_of_mem _ hp)), ?_, ?_⟩
                · have h1 := (hP.nodes.kept hk3).cut (L - 1)
                  have h2 : (st2.reverse ++ [(s2, r2)]).take (L - 1) = st2.reverse := by
                    rw [List.take_append_of_le_length (by rw [List.length_reverse]; omega)]
                    exact List.take_of_length_le (by rw [List.length_reverse]; omega)
                  rw [List.reverse_cons, h2] at h1
                  exact h1
                · rw [← hP.push, ← HEQ.out]
                  show _ = (if s2 = s2 then _ else _)
                  rw [if_pos rfl]
                · have h1 := hP.tot
                  have h2 : totS ((s2, r2) :: st2) = s2 + totS st2 := rfl
                  omega
                · have h1 := hP.short; simp at h1; omega
            case measure => simp [sliceLen]; omega
          · have hbb : ((s2 : Int) == (s' : Int)) = false := by rw [beq_eq_false_iff_ne]; omega
            have HTG : Hid (pushG pairZ st q.1 q.2 = (s', r') :: (s2, r2) :: st2) := by
              show _ = _
              rw [← HPP.out.push]
              show (if s2 = s' then _ else _) = _
              rw [if_neg heq]
            clear heq
            have wl0 : IntKind.i64.wrap ((L : Int) - 1) = (L : Int) - 1 := IntWalk.i64_in _ (by omega)
            have wl1 : (0 : Int) ≤ (L : Int) - 1 := by omega
            have wl2 : ((L : Int) - 1).toNat = L - 1 := by omega
            have wl3 : (L : Int) - 1 < (L : Int) := by omega
            have wl4 : decide (0 < L) = true := by simp; omega
            have wl5 : 0 < L := by omega
            have wl6 : decide ((0 : Int) < (L : Int)) = true := by simp; omega
            go_wp2_with fail
            go_quiet (fail)
            clear wl0 wl1 wl2 wl3 wl4 wl5 wl6
            have HPW := Lib.hid (HPP.out.drewN nq)
            obtain ⟨W, HW⟩ : ∃ W, Hid (wr.drewN nq = W) := ⟨_, rfl⟩
            rw [HW.out] at HPW ⊢
            have hb0 : w.heap.size ≤ W.heap.size := HPW.out.below.size
            go_wp2_with (at_builtin; refine wpList_app_ptrs rfl (.tmp 44) (.tmp 46) rfl _ w.heap.size (some ⟨ga, 0, none⟩) c' gs' (by rw [HLG.out]; rfl) _ _ [g'] rfl (HPW.out.own.alloc _) (one_newP _ _) (by rw [HLG.out]; simp <;> omega) (by simp; omega) (by simp) ?_; intro v w3 hA; have HKA := Lib.hid (Kept.appended (n := 0) (HPW.out.own.alloc _) hA); obtain ⟨⟨A3, c3, rfl, hown3⟩, hg3, hb3⟩ := hA; have HO3 := Lib.hid hown3; have HB3 := Lib.hid hb3; clear hown3 hg3 hb3)
            go_wp2
            go_roundw
            case rel =>
              have hP := HPW.out
              have hM := HM.out
              refine ⟨A3, c3, gs' ++ [g'], pushG pairZ st q.1 q.2, k + 1, by omega, by simp, by go_num, ?_⟩
              have hkept : Kept W w3 := (Kept.alloc W _).trans HKA.out
              obtain ⟨x, y, hnd⟩ := hP.node
              have htot : totS (ts.drop k) = q.1 + totS (ts.drop (k + 1)) := by rw [HDR.out]; rfl
              refine ⟨HO3.out, (hP.below.alloc (by omega) _).trans HB3.out, ?_, ?_, ?_, ?_, ?_⟩
              · rw [HTG.out, List.reverse_cons]
                exact (hP.nodes.kept hkept).snoc (hkept _ _ _ _ _ hnd)
              · rw [← hM.rest, HDR.out]; rfl
              · exact pushG_digs _ _ _ hM.digs (HD.out q (by rw [← List.take_append_drop k ts, HDR.out]; simp))
              · rw [pushG_tot]; have := hM.tot; omega
              · have h1 := own_short hP.nodes
                have h2 := hM.pos
                have h3 : (pushG pairZ st q.1 q.2).length ≤ st.length + 1 := pushG_length _ _ _
                omega
            case measure => simp [intOf]; omega
    · have hkn : k = n := by omega
      subst hkn
      have hM := HM.out
      have hr := hM.rest
      rw [List.drop_eq_nil_of_le (by rw [HT.out]; omega)] at hr
      have HRR : Hid (mergeGo pairZ [] ts = st) := by show _ = _; rw [← hr]; cases st <;> rfl
      clear hM hr
      go_wp2
      go_ret
      refine ⟨A, c, gs, rfl, HM.out.own, ?_, HM.out.below⟩
      rw [HRR.out]
      exact HM.out.nodes

end Go.Proofs.Ytajiciapiopjcaa
