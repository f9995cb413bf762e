/- Contract of the model's l2Merge: the peaks that trees of known sizes merge into. Conditions: the sizes add up to at most 16; the roots are digests. -/
import Derived.Test.YtajiciapiopjcaaSpecGrow
namespace Go.Proofs.Ytajiciapiopjcaa
open Go.RowKit
set_option linter.unusedVariables false

/-- What an append of one number leaves, and where the new slice lies. -/
structure OneMore (W : World) (base : Nat) (A : Option Addr) (ds : List Int) (z : Int) (v : Value) (w' : World) : Prop where
  own : ∃ g c', v = .slice (some ⟨g, 0, none⟩) (ds.length + 1) c' ∧ OwnInts w' base (some ⟨g, 0, none⟩) c' (ds ++ [z]) ∧ (A = some ⟨g, 0, none⟩ ∨ g = W.heap.size)
  grown : ∀ b, A = some ⟨b, 0, none⟩ → W.grownBy w' (some b)
  below : Below base W w'

theorem wpList_one_more {ops : Array Oper} {rest : List Oper} {o : Oper} {a : Act} {Q : Exit → Act → World → Prop} (hgd : o.guard = none) (s x : Operand) (ho : o.op = .call { callee := .builtin .append, args := #[s, x], argTypes := #[23, 23] })
    (W : World) (base : Nat) (g0 c : Nat) (ds : List Int) (hs : a.eval s = .slice (some ⟨g0, 0, none⟩) ds.length c) (B : Option Addr) (bc : Nat) (z : Int) (hx : a.eval x = .slice B 1 bc)
    (hown : OwnInts W base (some ⟨g0, 0, none⟩) c ds) (hI : IntsAt W W.heap.size B [z]) (hl : ds.length ≤ 2000000) (hbase : base ≤ W.heap.size)
    (h : ∀ v w', OneMore W base (some ⟨g0, 0, none⟩) ds z v w' → wpList Try.prog ops Q rest (a.put o.dst v) w') : wpList Try.prog ops Q (o :: rest) a W := by
  obtain ⟨i0, hi0, hz0, hz1, hz2⟩ := info_parts int_info
  obtain ⟨b, ob, rfl, hb, hc⟩ := hI (by simp)
  have hcells : ∀ j u, (vals [z])[j]? = some u → W.cell? ((⟨b, ob, none⟩ : Addr).add j) = some u := by
    intro j u hu
    have hj : j < 1 := by
      have := (List.getElem?_eq_some_iff.1 hu).1
      simpa [vals] using this
    rw [vals_get [z] j (by simpa using hj)] at hu
    rw [Addr.add_lit, ← hu]
    exact hc j (by simpa using hj)
  refine wpList_append_own_at (P := Try.prog) W hgd s x 23 ho base 3 i0 _ 1 8 Try.underlying23 hi0 hz0 hz1 hz2 rfl (by omega) _ ds.length (vals ds) hs hown ⟨b, ob, none⟩ 1 bc (vals [z]) hx (by simp [vals]) hcells (vals_one [z]) (by unfold maxLen; omega) (by omega) hbase ?_
  intro v' w' h2 h3 _ h5
  refine h v' w' ⟨?_, ?_, (Below.refl _ _).grown h3 hbase (fun k hk => hown.far (n := ds.length) k hk)⟩
  · rw [← vals_append] at h2
    rcases h2.2 with ⟨hv, hn⟩ | ⟨g, cap, cur, hv, hr⟩
    · omega
    · refine ⟨g, cap, hv, ?_, ?_⟩
      · unfold OwnInts; rw [List.length_append]; rw [hv] at h2; exact h2
      · rw [hv] at h5
        simp only [Value.ownBlock, Option.some.injEq] at h5
        rcases h5 with e | e
        · left; rw [e]
        · right; exact e
  · intro b' e
    injection e with e
    injection e with e _ _
    subst e
    exact h3

theorem own_ne2 {w w' : World} {base : Nat} {g cap : Nat} {zs : List Int} (h : OwnInts w base (some ⟨g, 0, none⟩) cap zs) {b : Nat} (hg : w.grownBy w' (some b)) (hne : g ≠ b) : OwnInts w' base (some ⟨g, 0, none⟩) cap zs :=
  World.ownsRow.kept h hg (by right; simp [Value.ownBlock]; exact hne)
theorem own_lt2 {w : World} {base g cap : Nat} {zs : List Int} (h : OwnInts w base (some ⟨g, 0, none⟩) cap zs) : base ≤ g ∧ g < w.heap.size := World.ownsRow.lt h g rfl
theorem own_new2 (w : World) (base : Nat) (hb : base ≤ w.heap.size) : OwnInts (w.alloc (.cells #[] 3)) base (some ⟨w.heap.size, 0, none⟩) 0 [] := (OwnInts.new w).base_le hb

def szs (st : List (Nat × Int)) : List Int := natsZ (st.map (·.1)).reverse
def rts (st : List (Nat × Int)) : List Int := (st.map (·.2)).reverse
theorem szs_length (st : List (Nat × Int)) : (szs st).length = st.length := by unfold szs; rw [natsZ_length, List.length_reverse, List.length_map]
theorem rts_length (st : List (Nat × Int)) : (rts st).length = st.length := by unfold rts; rw [List.length_reverse, List.length_map]
theorem szs_cons (s : Nat) (t : Int) (st : List (Nat × Int)) : szs ((s, t) :: st) = szs st ++ [(s : Int)] := by unfold szs; rw [List.map_cons, List.reverse_cons, natsZ_append]; rfl
theorem rts_cons (s : Nat) (t : Int) (st : List (Nat × Int)) : rts ((s, t) :: st) = rts st ++ [t] := by unfold rts; rw [List.map_cons, List.reverse_cons]
theorem nth_snoc (l : List Int) (a : Int) : nth (l ++ [a]) l.length = a := by unfold nth; rw [List.getD_eq_getElem?_getD, List.getElem?_append_right (Nat.le_refl _), Nat.sub_self]; rfl
theorem pushS_tot (at_ : Nat) : ∀ (st : List (Nat × Int)) (s : Nat) (t : Int), totS (pushS pairZ at_ st s t) = totS st + s := by
  intro st
  induction st with
  | nil => intro s t; show s + 0 = 0 + s; omega
  | cons p st ih =>
    intro s t
    obtain ⟨s', t'⟩ := p
    show totS (if s' = s ∧ (at_ - 2 * s) % (2 * s) = 0 then pushS pairZ at_ st (2 * s) (pairZ t' t) else (s, t) :: (s', t') :: st) = s' + totS st + s
    by_cases c : s' = s ∧ (at_ - 2 * s) % (2 * s) = 0
    · rw [if_pos c, ih]; omega
    · rw [if_neg c]; show s + (s' + totS st) = _; omega
theorem pushS_digs (at_ : Nat) : ∀ (st : List (Nat × Int)) (s : Nat) (t : Int), DigsP st → (0 ≤ t ∧ t < 991) → DigsP (pushS pairZ at_ st s t) := by
  intro st
  induction st with
  | nil => intro s t _ h p hp; have : p = (s, t) := by simpa [pushS] using hp
           subst this; exact h
  | cons p st ih =>
    intro s t hd h
    obtain ⟨s', t'⟩ := p
    show DigsP (if s' = s ∧ (at_ - 2 * s) % (2 * s) = 0 then pushS pairZ at_ st (2 * s) (pairZ t' t) else (s, t) :: (s', t') :: st)
    by_cases c : s' = s ∧ (at_ - 2 * s) % (2 * s) = 0
    · rw [if_pos c]; exact ih _ _ (fun p hp => hd p (List.mem_cons_of_mem _ hp)) (pairZ_bd _ _)
    · rw [if_neg c]
      intro p hp
      rcases List.mem_cons.1 hp with e | e
      · subst e; exact h
      · exact hd p e
theorem pushS_length (at_ : Nat) : ∀ (st : List (Nat × Int)) (s : Nat) (t : Int), (pushS pairZ at_ st s t).length ≤ st.length + 1 := by
  intro st
  induction st with
  | nil => intro s t; exact Nat.le_refl _
  | cons p st ih =>
    intro s t
    obtain ⟨s', t'⟩ := p
    show (if s' = s ∧ (at_ - 2 * s) % (2 * s) = 0 then pushS pairZ at_ st (2 * s) (pairZ t' t) else (s, t) :: (s', t') :: st).length ≤ _
    by_cases c : s' = s ∧ (at_ - 2 * s) % (2 * s) = 0
    · rw [if_pos c]; have := ih (2 * s) (pairZ t' t); simp; omega
    · rw [if_neg c]; simp

structure SPushAt (w : World) (tgt : List (Nat × Int)) (at_ : Nat) (g1 c1 g2 c2 : Nat) (st : List (Nat × Int)) (r : Int) (s : Nat) (w' : World) : Prop where
  own1 : OwnInts w' w.heap.size (some ⟨g1, 0, none⟩) c1 (szs st)
  own2 : OwnInts w' w.heap.size (some ⟨g2, 0, none⟩) c2 (rts st)
  ne : g1 ≠ g2
  below : Below w.heap.size w w'
  push : pushS pairZ at_ st s r = tgt
  dig : 0 ≤ r ∧ r < 991
  digs : DigsP st
  tot : totS st + s = at_
  pos : 1 ≤ s
  short : st.length ≤ 40

structure SMergeAt (w : World) (ts : List (Nat × Int)) (at_ : Nat) (g1 c1 g2 c2 : Nat) (st : List (Nat × Int)) (k : Nat) (w' : World) : Prop where
  own1 : OwnInts w' w.heap.size (some ⟨g1, 0, none⟩) c1 (szs st)
  own2 : OwnInts w' w.heap.size (some ⟨g2, 0, none⟩) c2 (rts st)
  ne : g1 ≠ g2
  below : Below w.heap.size w w'
  rest : mergeSGo pairZ at_ st (ts.drop k) = mergeSGo pairZ 0 [] ts
  digs : DigsP st
  tot : totS st = at_
  all : at_ + totS (ts.drop k) ≤ 16
  short : st.length ≤ k

theorem mod2_eq (a s : Nat) (h : 2 * s ≤ a) : (((a : Int) % (2 * (s : Int))) == 0) = decide ((a - 2 * s) % (2 * s) = 0) := by
  have e : (a : Int) % (2 * (s : Int)) = ((a % (2 * s) : Nat) : Int) := by
    rw [Int.natCast_emod, Int.natCast_mul]; rfl
  rw [e, ← Nat.mod_eq_sub_mod h, Bool.eq_iff_iff]
  simp only [beq_iff_eq, decide_eq_true_eq]
  omega

set_option maxHeartbeats 4000000 in
set_option maxRecDepth 100000 in
theorem smerge_any (A : Option Addr) (ca : Nat) (ss : List Nat) (B : Option Addr) (cb : Nat) (rs : List Int) (w : World) (hS : IntsAt w w.heap.size A (natsZ ss)) (hR : IntsAt w w.heap.size B rs) (hl : rs.length = ss.length) (hd : Digs rs) (ht : totS (ss.zip rs) ≤ 16) (hps : ∀ x ∈ ss, 1 ≤ x) (hm : ss.length ≤ 40) :
    Calls Try.prog 48 #[.slice A ss.length ca, .slice B rs.length cb] w (RetInts w (mergeS pairZ ss rs)) := by
  have HS := Lib.hid hS
  have HR := Lib.hid hR
  obtain ⟨n, HN⟩ : ∃ n, Hid (ss.length = n) := ⟨_, rfl⟩
  have HL : Hid (rs.length = n) := by show _ = _; rw [hl]; exact HN.out
  obtain ⟨ts, HTS⟩ : ∃ ts, Hid (ss.zip rs = ts) := ⟨_, rfl⟩
  have HD : Hid (DigsP ts) := by show DigsP ts; rw [← HTS.out]; exact digs_zip ss rs hd
  have HT : Hid (ts.length = n) := by show _ = _; rw [← HTS.out, List.length_zip, HN.out, HL.out]; omega
  have HPS := Lib.hid hps
  have HQ0 : Hid (∀ k, k < n → ts.getD k (0, 0) = (ss.getD k 0, nth rs k)) := fun k hk => by
    have h1 : k < ss.length := by rw [HN.out]; exact hk
    have h2 : k < rs.length := by rw [HL.out]; exact hk
    rw [← HTS.out, List.getD_eq_getElem?_getD, List.getElem?_eq_getElem (by rw [List.length_zip]; omega), List.getElem_zip]
    unfold nth
    rw [List.getD_eq_getElem?_getD, List.getD_eq_getElem?_getD, List.getElem?_eq_getElem h1, List.getElem?_eq_getElem h2]
    rfl
  rw [HTS.out] at ht
  rw [HL.out, HN.out]
  rw [HN.out] at hm
  clear hS hR hl hd hps
  go_enter Try.func48, Try.ntmps48
  go_wp2
  go_loopw [5, 6, 7, 8] (fun x1 x2 a i w' => ∃ (g1 c1 g2 c2 : Nat) (st : List (Nat × Int)) (k at_ : Nat), k ≤ n ∧ x1 = .slice (some ⟨g1, 0, none⟩) st.length c1 ∧ x2 = .slice (some ⟨g2, 0, none⟩) st.length c2 ∧ a = .int .i64 at_ ∧ i = .int .i64 k ∧ at_ ≤ 16 ∧ Hid (SMergeAt w ts at_ g1 c1 g2 c2 st k w')) (fun _ _ _ i _ => n - (intOf i).toNat)
  case atStart =>
    refine ⟨w.heap.size, 0, w.heap.size + 1, 0, [], 0, 0, by omega, rfl, rfl, rfl, rfl, by omega, ?_⟩
    have h1 := own_new2 w w.heap.size (Nat.le_refl _)
    have h2 := own_new2 (w.alloc (.cells #[] 3)) w.heap.size (by simp)
    refine ⟨h1.alloc _, (by show OwnInts _ _ _ _ []; simpa using h2), by omega, ((Below.refl _ _).alloc (Nat.le_refl _) _).alloc (by simp) _, rfl, (fun p hp => by cases hp), rfl, (by show 0 + totS ts ≤ 16; omega), by simp⟩
  case round =>
    obtain ⟨g1, c1, g2, c2, st, k, at_, hk, rfl, rfl, rfl, rfl, hat16, HM⟩ := hrel
    by_cases hlt : k < n
    · have hks : k < ss.length := by rw [HN.out]; exact hlt
      have hkr : k < rs.length := by rw [HL.out]; exact hlt
      have hkt : k < ts.length := by rw [HT.out]; exact hlt
      obtain ⟨b1, o1, rfl, hb1, hc1⟩ := (HS.out.below HM.out.below (Nat.le_refl _)) (by rw [natsZ_length]; omega)
      obtain ⟨b2, o2, rfl, hb2, hc2⟩ := (HR.out.below HM.out.below (Nat.le_refl _)) (by omega)
      have hck1 := hc1 k (by rw [natsZ_length]; exact hks)
      have hck2 := hc2 k hkr
      rw [natsZ_nth] at hck1
      obtain ⟨q, HQ⟩ : ∃ q : Nat × Int, Hid (ts.getD k (0, 0) = q) := ⟨_, rfl⟩
      have hq := HQ0.out k hlt
      rw [HQ.out] at hq
      have hq1 : ss.getD k 0 = q.1 := by rw [hq]
      have hq2 : nth rs k = q.2 := by rw [hq]
      rw [hq1] at hck1
      rw [hq2] at hck2
      have hdrop : ts.drop k = q :: ts.drop (k + 1) := by
        rw [List.drop_eq_getElem_cons hkt]
        have := HQ.out
        rw [List.getD_eq_getElem?_getD, List.getElem?_eq_getElem hkt] at this
        simp at this
        rw [this]
      have hqp : 1 ≤ q.1 := by
        rw [← hq1, List.getD_eq_getElem?_getD, List.getElem?_eq_getElem hks]
        exact HPS.out _ (List.getElem_mem hks)
      have hqm : q ∈ ts := by rw [← List.take_append_drop k ts, hdrop]; simp
      have hall := HM.out.all
      rw [hdrop] at hall
      have hall2 : totS (q :: ts.drop (k + 1)) = q.1 + totS (ts.drop (k + 1)) := rfl
      have hq16 : at_ + q.1 ≤ 16 := by omega
      obtain ⟨at1, HAT1⟩ : ∃ a, Hid (at_ + q.1 = a) := ⟨_, rfl⟩
      have hat1 : at1 ≤ 16 := by rw [← HAT1.out]; exact hq16
      have HPA : Hid (SPushAt w (pushS pairZ at1 st q.1 q.2) at1 g1 c1 g2 c2 st q.2 q.1 wr) := by
        have hM := HM.out
        exact ⟨hM.own1, hM.own2, hM.ne, hM.below, rfl, HD.out q hqm, hM.digs, by rw [hM.tot]; exact HAT1.out, hqp, by have := hM.short; omega⟩
      have HDR := Lib.hid hdrop
      have hq1b : q.1 ≤ 16 := by omega
      clear hc1 hc2 hks hkr hkt hq hq1 hq2 hdrop hqm hall hall2
      obtain ⟨qs, HQS⟩ : ∃ s, Hid (q.1 = s) := ⟨_, rfl⟩
      obtain ⟨qr, HQR⟩ : ∃ r, Hid (q.2 = r) := ⟨_, rfl⟩
      rw [HQS.out] at hck1 hq16 hq1b hqp
      rw [HQR.out] at hck2
      go_wp2_with fail
      rw [show (at_ : Int) + (qs : Int) = (at1 : Int) from by have := HAT1.out; rw [HQS.out] at this; omega]
      go_loopw [5, 6, 9, 10] (fun x1 x2 s r w' => ∃ (g1' c1' g2' c2' : Nat) (st' : List (Nat × Int)) (r' : Int) (s' : Nat), x1 = .slice (some ⟨g1', 0, none⟩) st'.length c1' ∧ x2 = .slice (some ⟨g2', 0, none⟩) st'.length c2' ∧ s = .int .i64 s' ∧ r = .int .i64 r' ∧ Hid (SPushAt w (pushS pairZ at1 st q.1 q.2) at1 g1' c1' g2' c2' st' r' s' w')) (fun x1 _ _ _ _ => sliceLen x1)
      case atStart => exact ⟨g1, c1, g2, c2, st, q.2, q.1, rfl, rfl, by rw [HQS.out], by rw [HQR.out], HPA⟩
      case round =>
        obtain ⟨g1', c1', g2', c2', st', r', s', rfl, rfl, rfl, rfl, HPP⟩ := hrel
        obtain ⟨L, HLG⟩ : ∃ L, Hid (st'.length = L) := ⟨_, rfl⟩
        have hL40 : L ≤ 40 := by rw [← HLG.out]; exact HPP.out.short
        have hs16 : s' ≤ 16 := by have := HPP.out.tot; omega
        have hs1 := HPP.out.pos
        rw [HLG.out]
        cases st' with
        | nil =>
          have hL0 : L = 0 := by rw [← HLG.out]; rfl
          subst hL0
          have HTG : Hid (pushS pairZ at1 st q.1 q.2 = [(s', r')]) := by show _ = _; rw [← HPP.out.push]; rfl
          have hb0 : w.heap.size ≤ wr.heap.size := HPP.out.below.size
          go_wp2_with (first
            | (at_builtin; refine wpList_one_more rfl (.tmp 73) (.tmp 75) rfl _ w.heap.size g2' c2' (rts ([] : List (Nat × Int))) (by rw [rts_length, HLG.out]; rfl) _ _ r' rfl (HPP.out.own2.alloc _) (one_new _ _) (by rw [rts_length, HLG.out]; omega) (by simp; omega) ?_; intro v w3 hA; obtain ⟨⟨g4, c4, rfl, hown4, hat4⟩, hg4, hb4⟩ := hA; have HG4 := Lib.hid (hg4 g2' rfl); have HO4 := Lib.hid hown4; have HAT4 := Lib.hid hat4; have HB4 := Lib.hid hb4; rw [rts_length, HLG.out]; clear hown4 hat4 hg4 hb4; have hz4 : wr.heap.size ≤ w3.heap.size := (by have := HG4.out.size; simp at this; omega); have HO14 := Lib.hid (own_ne2 (HPP.out.own1.alloc _) HG4.out HPP.out.ne))
            | (at_builtin; refine wpList_one_more rfl (.tmp 77) (.tmp 79) rfl _ w.heap.size g1' c1' (szs ([] : List (Nat × Int))) (by rw [szs_length, HLG.out]; rfl) _ _ (s' : Int) rfl (HO14.out.alloc _) (one_new _ _) (by rw [szs_length, HLG.out]; omega) (by simp; omega) ?_; intro v w5 hA; obtain ⟨⟨g5, c5, rfl, hown5, hat5⟩, hg5, hb5⟩ := hA; have HG5 := Lib.hid (hg5 g1' rfl); have HO5 := Lib.hid hown5; have HAT5 := Lib.hid hat5; have HB5 := Lib.hid hb5; rw [szs_length, HLG.out]; clear hown5 hat5 hg5 hb5))
          go_roundw
          case rel =>
            have hP := HPP.out
            have hM := HM.out
            have hl1 := own_lt2 hP.own1
            have hl2 := own_lt2 hP.own2
            have hl4 := own_lt2 HO4.out
            have hg41 : g4 ≠ g1' := by
              rcases HAT4.out with e | e
              · injection e with e; injection e with e _ _; have := hP.ne; omega
              · simp at e; omega
            have hg45 : g5 ≠ g4 := by
              rcases HAT5.out with e | e
              · injection e with e; injection e with e _ _; omega
              · simp at e; omega
            refine ⟨g5, c5, g4, c4, pushS pairZ at1 st q.1 q.2, k + 1, at1, by omega, ?_, ?_, rfl, by go_num, by omega, ?_⟩
            · rw [HTG.out, List.length_cons, HLG.out]
            · rw [HTG.out, List.length_cons, HLG.out]
            · have htot : totS (ts.drop k) = q.1 + totS (ts.drop (k + 1)) := by rw [HDR.out]; rfl
              refine ⟨?_, ?_, hg45, ?_, ?_, ?_, ?_, ?_, ?_⟩
              · rw [HTG.out, szs_cons]; exact HO5.out
              · rw [HTG.out, rts_cons]; exact own_ne2 (HO4.out.alloc _) HG5.out hg41
              · exact ((((hP.below.alloc (by omega) _).trans HB4.out).alloc (by omega) _).trans HB5.out)
              · rw [← hM.rest, HDR.out, ← HAT1.out]; rfl
              · exact pushS_digs _ _ _ _ hM.digs (HD.out q (by rw [← List.take_append_drop k ts, HDR.out]; simp))
              · rw [pushS_tot, hM.tot]; exact HAT1.out
              · have := hM.all; have h2 := HAT1.out; omega
              · have := pushS_length at1 st q.1 q.2; have h2 := hM.short; omega
          case measure => simp [intOf]; omega
        | cons p st2 =>
          obtain ⟨s2, r2⟩ := p
          have hL : L = st2.length + 1 := by rw [← HLG.out]; rfl
          have hL1 : 1 ≤ L := by omega
          have htt := HPP.out.tot
          have htt2 : totS ((s2, r2) :: st2) = s2 + totS st2 := rfl
          have hs2 : s2 ≤ 16 := by omega
          have k1 : wr.cell? ⟨g1', L - 1, none⟩ = some (.int .i64 (s2 : Int)) := by
            have h1 := (HPP.out.own1.ints.lt (by rw [szs_length]; simp)).2 (L - 1) (by rw [szs_length, HLG.out]; omega)
            rw [Nat.zero_add, szs_cons, show L - 1 = (szs st2).length from by rw [szs_length]; omega, nth_snoc] at h1
            rw [show L - 1 = (szs st2).length from by rw [szs_length]; omega]
            exact h1
          have k2 : wr.cell? ⟨g2', L - 1, none⟩ = some (.int .i64 r2) := by
            have h1 := (HPP.out.own2.ints.lt (by rw [rts_length]; simp)).2 (L - 1) (by rw [rts_length, HLG.out]; omega)
            rw [Nat.zero_add, rts_cons, show L - 1 = (rts st2).length from by rw [rts_length]; omega, nth_snoc] at h1
            rw [show L - 1 = (rts st2).length from by rw [rts_length]; omega]
            exact h1
          have hcb1 := HPP.out.own1.le
          have hcb2 := HPP.out.own2.le
          rw [szs_length, HLG.out] at hcb1
          rw [rts_length, HLG.out] at hcb2
          have hLc1 : (L : Int) - 1 ≤ (c1' : Int) := by omega
          have hLc2 : (L : Int) - 1 ≤ (c2' : Int) := by omega
          have hc631 := hcb1.2
          have hc632 := hcb2.2
          unfold maxLen at hc631 hc632
          have HHL := Lib.hid hL
          have HTT : Hid (s2 + totS st2 + s' = at1) := htt
          clear hcb1 hcb2 hL htt2
          by_cases heq : s2 = s'
          · have hbb : ((s2 : Int) == (s' : Int)) = true := by rw [beq_iff_eq]; omega
            have h2s : 2 * s' ≤ at1 := by have := HTT.out; omega
            have hme := mod2_eq at1 s' h2s
            clear htt
            by_cases hmod : (at1 - 2 * s') % (2 * s') = 0
            · rw [decide_eq_true hmod] at hme
              have HPU : Hid (pushS pairZ at1 st2 (2 * s') (pairZ r2 r') = pushS pairZ at1 st q.1 q.2) := by
                show _ = _
                rw [← HPP.out.push]
                show _ = (if s2 = s' ∧ (at1 - 2 * s') % (2 * s') = 0 then _ else _)
                rw [if_pos ⟨heq, hmod⟩]
              have HEQ := Lib.hid heq
              have HDP := HPP.out.digs (s2, r2) (by simp)
              obtain ⟨hr20, hr21⟩ := HDP
              obtain ⟨hr10, hr11⟩ := HPP.out.dig
              clear heq hmod
              go_wp2_with fail
              refine (spair1_any _ _ _ hr20 hr21 hr10 hr11).mono ?_
              rintro e w' ⟨rfl, rfl⟩
              go_wp2
              go_roundw
              case rel =>
                have hP := HPP.out
                have hLe := HHL.out
                refine ⟨g1', c1', g2', c2', st2, pairZ r2 r', 2 * s', ?_, ?_, by go_num, rfl, ?_⟩
                · rw [show st2.length = L - 1 from by omega]
                · rw [show st2.length = L - 1 from by omega]
                · have e1 : (szs ((s2, r2) :: st2)).take st2.length = szs st2 := by rw [szs_cons, ← szs_length st2]; exact List.take_left
                  have e2 : (rts ((s2, r2) :: st2)).take st2.length = rts st2 := by rw [rts_cons, ← rts_length st2]; exact List.take_left
                  have o1 := hP.own1.cut st2.length (by rw [szs_length]; simp)
                  have o2 := hP.own2.cut st2.length (by rw [rts_length]; simp)
                  rw [e1] at o1
                  rw [e2] at o2
                  exact ⟨o1, o2, hP.ne, hP.below, HPU.out, pairZ_bd _ _, (fun p hp => hP.digs p (List.mem_cons_of_mem _ hp)), (by have := HTT.out; have := HEQ.out; omega), by omega, by have := hP.short; simp at this; omega⟩
              case measure => simp [sliceLen]; omega
            · rw [decide_eq_false hmod] at hme
              have HTG : Hid (pushS pairZ at1 st q.1 q.2 = (s', r') :: (s2, r2) :: st2) := by
                show _ = _
                rw [← HPP.out.push]
                show (if s2 = s' ∧ (at1 - 2 * s') % (2 * s') = 0 then _ else _) = _
                rw [if_neg (fun h => hmod h.2)]
              clear heq hmod
              have hb0 : w.heap.size ≤ wr.heap.size := HPP.out.below.size
              go_wp2_with (first
                | (at_builtin; refine wpList_one_more rfl (.tmp 73) (.tmp 75) rfl _ w.heap.size g2' c2' (rts ((s2, r2) :: st2)) (by rw [rts_length, HLG.out]; rfl) _ _ r' rfl (HPP.out.own2.alloc _) (one_new _ _) (by rw [rts_length, HLG.out]; omega) (by simp; omega) ?_; intro v w3 hA; obtain ⟨⟨g4, c4, rfl, hown4, hat4⟩, hg4, hb4⟩ := hA; have HG4 := Lib.hid (hg4 g2' rfl); have HO4 := Lib.hid hown4; have HAT4 := Lib.hid hat4; have HB4 := Lib.hid hb4; rw [rts_length, HLG.out]; clear hown4 hat4 hg4 hb4; have hz4 : wr.heap.size ≤ w3.heap.size := (by have := HG4.out.size; simp at this; omega); have HO14 := Lib.hid (own_ne2 (HPP.out.own1.alloc _) HG4.out HPP.out.ne))
                | (at_builtin; refine wpList_one_more rfl (.tmp 77) (.tmp 79) rfl _ w.heap.size g1' c1' (szs ((s2, r2) :: st2)) (by rw [szs_length, HLG.out]; rfl) _ _ (s' : Int) rfl (HO14.out.alloc _) (one_new _ _) (by rw [szs_length, HLG.out]; omega) (by simp; omega) ?_; intro v w5 hA; obtain ⟨⟨g5, c5, rfl, hown5, hat5⟩, hg5, hb5⟩ := hA; have HG5 := Lib.hid (hg5 g1' rfl); have HO5 := Lib.hid hown5; have HAT5 := Lib.hid hat5; have HB5 := Lib.hid hb5; rw [szs_length, HLG.out]; clear hown5 hat5 hg5 hb5))
              go_roundw
              case rel =>
                have hP := HPP.out
                have hM := HM.out
                have hl1 := own_lt2 hP.own1
                have hl2 := own_lt2 hP.own2
                have hl4 := own_lt2 HO4.out
                have hg41 : g4 ≠ g1' := by
                  rcases HAT4.out with e | e
                  · injection e with e; injection e with e _ _; have := hP.ne; omega
                  · simp at e; omega
                have hg45 : g5 ≠ g4 := by
                  rcases HAT5.out with e | e
                  · injection e with e; injection e with e _ _; omega
                  · simp at e; omega
                refine ⟨g5, c5, g4, c4, pushS pairZ at1 st q.1 q.2, k + 1, at1, by omega, ?_, ?_, rfl, by go_num, by omega, ?_⟩
                · rw [HTG.out, List.length_cons, HLG.out]
                · rw [HTG.out, List.length_cons, HLG.out]
                · have htot : totS (ts.drop k) = q.1 + totS (ts.drop (k + 1)) := by rw [HDR.out]; rfl
                  refine ⟨?_, ?_, hg45, ?_, ?_, ?_, ?_, ?_, ?_⟩
                  · rw [HTG.out, szs_cons]; exact HO5.out
                  · rw [HTG.out, rts_cons]; exact own_ne2 (HO4.out.alloc _) HG5.out hg41
                  · exact ((((hP.below.alloc (by omega) _).trans HB4.out).alloc (by omega) _).trans HB5.out)
                  · rw [← hM.rest, HDR.out, ← HAT1.out]; rfl
                  · exact pushS_digs _ _ _ _ hM.digs (HD.out q (by rw [← List.take_append_drop k ts, HDR.out]; simp))
                  · rw [pushS_tot, hM.tot]; exact HAT1.out
                  · have := hM.all; have h2 := HAT1.out; omega
                  · have := pushS_length at1 st q.1 q.2; have h2 := hM.short; omega
              case measure => simp [intOf]; omega
          · have hbb : ((s2 : Int) == (s' : Int)) = false := by rw [beq_eq_false_iff_ne]; omega
            have HTG : Hid (pushS pairZ at1 st q.1 q.2 = (s', r') :: (s2, r2) :: st2) := by
              show _ = _
              rw [← HPP.out.push]
              show (if s2 = s' ∧ (at1 - 2 * s') % (2 * s') = 0 then _ else _) = _
              rw [if_neg (fun h => heq h.1)]
            clear heq htt
            have hb0 : w.heap.size ≤ wr.heap.size := HPP.out.below.size
            go_wp2_with (first
              | (at_builtin; refine wpList_one_more rfl (.tmp 73) (.tmp 75) rfl _ w.heap.size g2' c2' (rts ((s2, r2) :: st2)) (by rw [rts_length, HLG.out]; rfl) _ _ r' rfl (HPP.out.own2.alloc _) (one_new _ _) (by rw [rts_length, HLG.out]; omega) (by simp; omega) ?_; intro v w3 hA; obtain ⟨⟨g4, c4, rfl, hown4, hat4⟩, hg4, hb4⟩ := hA; have HG4 := Lib.hid (hg4 g2' rfl); have HO4 := Lib.hid hown4; have HAT4 := Lib.hid hat4; have HB4 := Lib.hid hb4; rw [rts_length, HLG.out]; clear hown4 hat4 hg4 hb4; have hz4 : wr.heap.size ≤ w3.heap.size := (by have := HG4.out.size; simp at this; omega); have HO14 := Lib.hid (own_ne2 (HPP.out.own1.alloc _) HG4.out HPP.out.ne))
              | (at_builtin; refine wpList_one_more rfl (.tmp 77) (.tmp 79) rfl _ w.heap.size g1' c1' (szs ((s2, r2) :: st2)) (by rw [szs_length, HLG.out]; rfl) _ _ (s' : Int) rfl (HO14.out.alloc _) (one_new _ _) (by rw [szs_length, HLG.out]; omega) (by simp; omega) ?_; intro v w5 hA; obtain ⟨⟨g5, c5, rfl, hown5, hat5⟩, hg5, hb5⟩ := hA; have HG5 := Lib.hid (hg5 g1' rfl); have HO5 := Lib.hid hown5; have HAT5 := Lib.hid hat5; have HB5 := Lib.hid hb5; rw [szs_length, HLG.out]; clear hown5 hat5 hg5 hb5))
            go_roundw
            case rel =>
              have hP := HPP.out
              have hM := HM.out
              have hl1 := own_lt2 hP.own1
              have hl2 := own_lt2 hP.own2
              have hl4 := own_lt2 HO4.out
              have hg41 : g4 ≠ g1' := by
                rcases HAT4.out with e | e
                · injection e with e; injection e with e _ _; have := hP.ne; omega
                · simp at e; omega
              have hg45 : g5 ≠ g4 := by
                rcases HAT5.out with e | e
                · injection e with e; injection e with e _ _; omega
                · simp at e; omega
              refine ⟨g5, c5, g4, c4, pushS pairZ at1 st q.1 q.2, k + 1, at1, by omega, ?_, ?_, rfl, by go_num, by omega, ?_⟩
              · rw [HTG.out, List.length_cons, HLG.out]
              · rw [HTG.out, List.length_cons, HLG.out]
              · have htot : totS (ts.drop k) = q.1 + totS (ts.drop (k + 1)) := by rw [HDR.out]; rfl
                refine ⟨?_, ?_, hg45, ?_, ?_, ?_, ?_, ?_, ?_⟩
                · rw [HTG.out, szs_cons]; exact HO5.out
                · rw [HTG.out, rts_cons]; exact own_ne2 (HO4.out.alloc _) HG5.out hg41
                · exact ((((hP.below.alloc (by omega) _).trans HB4.out).alloc (by omega) _).trans HB5.out)
                · rw [← hM.rest, HDR.out, ← HAT1.out]; rfl
                · exact pushS_digs _ _ _ _ hM.digs (HD.out q (by rw [← List.take_append_drop k ts, HDR.out]; simp))
                · rw [pushS_tot, hM.tot]; exact HAT1.out
                · have := hM.all; have h2 := HAT1.out; omega
                · have := pushS_length at1 st q.1 q.2; have h2 := hM.short; omega
            case measure => simp [intOf]; omega
    · have hkn : k = n := by omega
      subst hkn
      have hr := HM.out.rest
      rw [List.drop_eq_nil_of_le (by rw [HT.out]; omega)] at hr
      have HRR : Hid (rts st = mergeS pairZ ss rs) := by
        show _ = _
        unfold mergeS rts
        rw [HTS.out, ← hr]
        cases st <;> rfl
      clear hr
      go_wp2
      go_ret
      refine ⟨some ⟨g2, 0, none⟩, c2, ?_, ?_, HM.out.below⟩
      · rw [← HRR.out, rts_length]; rfl
      · rw [← HRR.out]; exact HM.out.own2

end Go.Proofs.Ytajiciapiopjcaa
