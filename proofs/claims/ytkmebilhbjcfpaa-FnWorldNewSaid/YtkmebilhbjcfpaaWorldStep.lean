/- The plain mathematics of runs: connections, heads, requests, blocks in transit and every event keep a run valid. Conditions: as each statement says. -/
import Derived.Test.YtkmebilhbjcfpaaWorldMath
namespace Go.Proofs.Ytkmebilhbjcfpaa
set_option linter.unusedVariables false

/-! ### connections -/
theorem ltK_trans {x y z : LinkD} (h : ltK x y) (k : ltK y z) : ltK x z := by unfold ltK at *; omega
theorem ltK_irr (x : LinkD) : ¬ ltK x x := by unfold ltK; omega
theorem ltK_tot {x y : LinkD} (h : ¬ ltK x y) (hne : x ≠ y) : ltK y x := by
  unfold ltK at *
  by_cases e : x.a = y.a
  · by_cases e2 : x.b = y.b
    · exact absurd (LinkD.same e e2) hne
    · omega
  · omega
theorem links_ins {n : Nat} {ls : List LinkD} {x : LinkD} (h : LinksW n ls) (hx : 0 ≤ x.a ∧ x.a < x.b ∧ x.b < n) (hno : ∀ l ∈ ls, l ≠ x) : LinksW n (insK ls x) := by
  have hbeh : ∀ (ms : List LinkD), ms.Pairwise ltK → (∀ l ∈ ms, l ≠ x) → ∀ l ∈ ms.dropWhile (befK x), ltK x l := by
    intro ms hp hn
    induction ms with
    | nil => intro l hl; cases hl
    | cons m ms ih =>
      rw [List.pairwise_cons] at hp
      rw [List.dropWhile_cons]
      split
      · exact ih hp.2 fun l hl => hn l (List.mem_cons_of_mem _ hl)
      · rename_i hb
        have hm : ltK x m := ltK_tot (fun k => hb (by unfold befK; exact decide_eq_true k)) (hn m List.mem_cons_self)
        intro l hl
        rcases List.mem_cons.1 hl with rfl | hl
        · exact hm
        · exact ltK_trans hm (hp.1 l hl)
  have hbef : ∀ l ∈ ls.takeWhile (befK x), ltK l x := fun l hl => by
    have := List.all_eq_true.1 (List.all_takeWhile (p := befK x) (l := ls)) l hl
    unfold befK at this
    exact of_decide_eq_true this
  refine ⟨fun l hl => ?_, ?_⟩
  · unfold insK at hl
    rcases List.mem_append.1 hl with hl | hl
    · exact h.ok l ((List.takeWhile_sublist _).subset hl)
    · rcases List.mem_cons.1 hl with rfl | hl
      · exact hx
      · exact h.ok l ((List.dropWhile_sublist _).subset hl)
  · unfold insK
    rw [List.pairwise_append]
    refine ⟨h.asc.sublist (List.takeWhile_sublist _), List.pairwise_cons.2 ⟨fun l hl => hbeh ls h.asc hno l hl, h.asc.sublist (List.dropWhile_sublist _)⟩, fun a ha b hb => ?_⟩
    rcases List.mem_cons.1 hb with rfl | hb
    · exact hbef a ha
    · exact ltK_trans (hbef a ha) (hbeh ls h.asc hno b hb)
theorem links_del {n : Nat} {ls : List LinkD} (h : LinksW n ls) (x : LinkD) : LinksW n (delK ls x) :=
  ⟨fun l hl => h.ok l (List.mem_filter.1 hl).1, h.asc.sublist List.filter_sublist⟩
theorem linked_iff (W : WD) (a b : Int) : linkedB W a b = true ↔ (⟨min a b, max a b⟩ : LinkD) ∈ W.ls := by
  unfold linkedB
  rw [List.any_eq_true]
  constructor
  · rintro ⟨l, hl, h⟩
    rw [Bool.and_eq_true, beq_iff_eq, beq_iff_eq] at h
    have : l = ⟨min a b, max a b⟩ := LinkD.same h.1 h.2
    rw [← this]; exact hl
  · intro h
    exact ⟨_, h, by rw [Bool.and_eq_true, beq_iff_eq, beq_iff_eq]; exact ⟨rfl, rfl⟩⟩
theorem turnOk_iff (W : WD) (a b : Int) (up : Bool) : turnOk W a b up = true ↔ (a ≠ b ∧ (0 ≤ min a b ∧ max a b < W.fs.length)) ∧ linkedB W a b ≠ up := by
  unfold turnOk; rw [Bool.and_eq_true, decide_eq_true_eq, bne_iff_ne]
section
variable {W : WD}
theorem okW_turn (h : OkW W) (a b : Int) (up : Bool) : OkW (turnW W a b up) := by
  unfold turnW
  split
  · rename_i hc
    obtain ⟨h1, h2⟩ := (turnOk_iff _ _ _ _).1 hc
    refine h.conn ?_
    cases up with
    | false => exact links_del h.links _
    | true =>
      refine links_ins h.links ⟨h1.2.1, by show min a b < max a b; omega, h1.2.2⟩ fun l hl e => h2 ?_
      subst e
      exact (linked_iff W a b).2 hl
  · exact h
/-- Connected peers exist, and are two. -/
theorem OkW.linked (h : OkW W) {a b : Int} (hl : linkedB W a b = true) : (0 ≤ a ∧ a < W.fs.length) ∧ (0 ≤ b ∧ b < W.fs.length) ∧ a ≠ b := by
  have := h.links.ok _ ((linked_iff W a b).1 hl)
  simp only at this
  omega

/-! ### heads -/
theorem next_feed (h : OkW W) {f g : FD} (hf : FeedW W f) (hg : FeedW W g) (hlt : g.l < f.l) : FeedW W (nextF g f.l f.d f.s) := by
  have gl := hg.len
  have fl := hf.len
  have hm := hf.made h (by omega)
  have hsg : signedB g.p f.l f.d f.s = true := by rw [hg.key, ← hf.key]; exact hm.2.2
  refine ⟨next_ok hg.ok hsg hlt, hg.key, hf.le, fun i hi hb => ?_, .inr ?_⟩
  · have hb' : bth (longB g.hs f.l.toNat) i = true := hb
    rw [bth_longB] at hb'
    have hi2 : i < g.hs.length := by
      rcases Nat.lt_or_ge i g.hs.length with k | k
      · exact k
      · rw [bth_none _ _ k] at hb'; cases hb'
    show textOr (sth (longS g.bs f.l.toNat) i) = _
    rw [sth_longS]
    exact hg.same i (by omega) hb'
  · show f.l = madeL W.sec (leavesW W f.l.toNat) ∧ f.d = madeD W.sec (leavesW W f.l.toNat) ∧ f.s = madeS W.sec (leavesW W f.l.toNat)
    rcases hf.head with k | k
    · omega
    · exact k
/-- The head of a peer is accepted by one with a shorter head. -/
theorem head_code (h : OkW W) {f g : FD} (hf : FeedW W f) (hg : FeedW W g) (hlt : g.l < f.l) : codeZ g f.l f.d f.s (growthOr (leavesW W f.l.toNat) g.l) = 0 := by
  have gl := hg.len
  have fl := hf.len
  have hm := hf.made h (by omega)
  have hsg : signedB g.p f.l f.d f.s = true := by rw [hg.key, ← hf.key]; exact hm.2.2
  refine code0 hg.ok hsg (by omega) hlt ?_
  by_cases h0 : g.l ≤ 0
  · exact .inl h0
  · right
    have hgm := hg.made h (by omega)
    have hle := hf.le0 h
    obtain ⟨v1, v2⟩ := h.leaves f.l.toNat (by omega)
    obtain ⟨h16, hd⟩ := leavesB_yes v1
    have := growth_accept (leavesW W f.l.toNat) g.l.toNat h16 (by omega) hd
    have e1 : (leavesW W f.l.toNat).take g.l.toNat = leavesW W g.l.toNat := by
      unfold leavesW
      rw [← leafL_take, List.take_take, show min g.l.toNat f.l.toNat = g.l.toNat by omega]
    rw [e1, v2, ← hgm.1, ← hm.1, show ((g.l.toNat : Nat) : Int) = g.l by omega, show ((f.l.toNat : Nat) : Int) = f.l by omega] at this
    have e2 : growthOr (leavesW W f.l.toNat) g.l = growthZ (leavesW W f.l.toNat) g.l.toNat := by
      have := growthOr_yes v1 (m := g.l.toNat) (by omega)
      rwa [show ((g.l.toNat : Nat) : Int) = g.l by omega] at this
    rw [e2]
    exact this
/-- What giving a head does. -/
theorem headW_eq (h : OkW W) {a b : Int} (hl : linkedB W a b = true) : headW W a b = if (fth W.fs b.toNat).l < (fth W.fs a.toNat).l then { W with fs := W.fs.set b.toNat (nextF (fth W.fs b.toNat) (fth W.fs a.toNat).l (fth W.fs a.toNat).d (fth W.fs a.toNat).s) } else W := by
  obtain ⟨ha, hb, _⟩ := h.linked hl
  unfold headW
  by_cases hlt : (fth W.fs b.toNat).l < (fth W.fs a.toNat).l
  · have hc := head_code h (h.feeds a.toNat (by omega)) (h.feeds b.toNat (by omega)) hlt
    rw [if_pos hlt]
    simp only [hl, hlt, hc, true_and, if_true]
  · rw [if_neg hlt]
    simp only [hl, hlt, false_and, and_false, if_false]
theorem headW_no {a b : Int} (hl : linkedB W a b = false) : headW W a b = W := by unfold headW; simp only [hl, Bool.false_eq_true, false_and, if_false]
theorem okW_head (h : OkW W) (a b : Int) : OkW (headW W a b) := by
  cases hl : linkedB W a b with
  | false => rw [headW_no hl]; exact h
  | true =>
    rw [headW_eq h hl]
    obtain ⟨ha, hb, _⟩ := h.linked hl
    split
    · rename_i hlt
      have hfa := h.feeds a.toNat (by omega)
      refine h.put (fun e => ?_) (by omega) (next_feed h hfa (h.feeds b.toNat (by omega)) hlt)
      rw [e] at hlt
      have := hfa.le
      omega
    · exact h

/-! ### requests -/
theorem okW_ask (h : OkW W) (a b c : Int) : OkW (askW W a b c) := by
  unfold askW
  dsimp only
  split
  · rename_i hc
    obtain ⟨ha, hb, _⟩ := h.linked hc.1
    refine h.win (by omega) ?_
    rw [askR_yes hc.2.2.2.2]
    exact win_ask hc.2.2.2.2
  · exact h
theorem hasF_iff (f : FD) (i : Int) : hasF f i = true ↔ (0 ≤ i ∧ i < f.hs.length) ∧ bth f.hs i.toNat = true := by unfold hasF; rw [Bool.and_eq_true, decide_eq_true_eq]
theorem sent_piece (h : OkW W) {a b c : Int} {t : ByteArray} (hl : linkedB W a b = true) (hh : hasF (fth W.fs b.toNat) c = true) (ht : (sentT W b c t).size ≤ 8) : PieceW W (sentP W a b c t) := by
  obtain ⟨ha, hb, _⟩ := h.linked hl
  have hf := h.feeds b.toNat (by omega)
  have hlen := hf.len
  have hc := (hasF_iff _ _).1 hh
  exact ⟨hb, ha, ⟨by show 1 ≤ (fth W.fs b.toNat).l; omega, hf.le⟩, ⟨hc.1.1, by show c < (fth W.fs b.toNat).l; omega⟩, ht, rfl⟩
theorem okW_answer (h : OkW W) (a b c : Int) (t : ByteArray) : OkW (answerW W a b c t) := by
  unfold answerW
  split
  · rename_i hc
    refine h.nets (by rw [List.length_append]; have := hc.2.2.2.1; show _ + 1 ≤ 12; omega) fun p hp => ?_
    rcases List.mem_append.1 hp with hp | hp
    · exact h.pieces p hp
    · rw [List.mem_singleton] at hp
      subst hp
      exact sent_piece h hc.1 hc.2.2.1 hc.2.2.2.2
  · exact h

/-! ### blocks -/
/-- A feed whose blocks are all there has the digests of the writer. -/
theorem whole_leaves (h : OkW W) {f : FD} (hlen : (f.bs.length : Int) = f.l ∧ (f.hs.length : Int) = f.l) (hle : f.l ≤ (fth W.fs 0).l) (hs : ∀ i, i < f.bs.length → bth f.hs i = true → textOr (sth f.bs i) = textOr (sth (fth W.fs 0).bs i)) (hw : wholeB f.hs = true) : leafL f.bs = leavesW W f.l.toNat := by
  have h0 := h.len0
  have hk := ((wholeB_iff _).1 hw).2
  refine List.ext_getElem (by rw [leafL_length, (h.leaves f.l.toNat (by omega)).2]; omega) fun i h1 h2 => ?_
  have hi : i < f.bs.length := by rwa [leafL_length] at h1
  have a := nth_leafL f.bs i hi
  have b := nth_leaves W f.l.toNat i (by omega) (by omega)
  unfold nth at a b
  rw [List.getD_eq_getElem?_getD, List.getElem?_eq_getElem h1] at a
  rw [List.getD_eq_getElem?_getD, List.getElem?_eq_getElem h2] at b
  simp only [Option.getD_some] at a b
  rw [a, b]
  exact hs i hi (hk i (by omega))
/-- A block that the peer lacks, with the writer's digest. -/
theorem put_feed (h : OkW W) {f : FD} (hf : FeedW W f) {i : Nat} (hi : i < f.bs.length) {t : ByteArray} (ht : t.size ≤ 8) (he : textOr t = textOr (sth (fth W.fs 0).bs i)) : FeedW W (putF f i t) := by
  have hlen := hf.len
  have hk := (okB_iff _).1 hf.ok
  have hS : ∀ j, j < (f.bs.set i t).length → bth (f.hs.set i true) j = true → textOr (sth (f.bs.set i t) j) = textOr (sth (fth W.fs 0).bs j) := fun j hj hb => by
    rw [List.length_set] at hj
    rw [sth_set' _ _ _ _ hi]
    rw [bth_set' _ _ _ _ (by omega)] at hb
    split
    · rename_i e; subst e; exact he
    · rename_i e; rw [if_neg e] at hb; exact hf.same j hj hb
  refine ⟨okB_yes ⟨hk.1, hk.2.1, ⟨by show ((f.bs.set i t).length : Int) = f.l; rw [List.length_set]; exact hlen.1, by show ((f.hs.set i true).length : Int) = f.l; rw [List.length_set]; exact hlen.2.1⟩, fun j hj => ?_, fun hw => ?_⟩, hf.key, hf.le, hS, hf.head⟩
  · have hj' : j < f.bs.length := by have : j < (f.bs.set i t).length := hj; rwa [List.length_set] at this
    show (sth (f.bs.set i t) j).size ≤ 8 ∧ (sth (f.bs.set i t) j = ByteArray.empty ∨ bth (f.hs.set i true) j = true)
    rw [sth_set' _ _ _ _ hi, bth_set' _ _ _ _ (by omega)]
    split
    · exact ⟨ht, .inr rfl⟩
    · exact hk.2.2.2.1 j hj'
  · have e := whole_leaves h (f := putF f i t) ⟨by show ((f.bs.set i t).length : Int) = f.l; rw [List.length_set]; exact hlen.1, by show ((f.hs.set i true).length : Int) = f.l; rw [List.length_set]; exact hlen.2.1⟩ hf.le hS hw
    have hm := hf.made h (by omega)
    rw [e]
    show digestOr (leavesW W f.l.toNat) = f.d
    rw [hm.1]
    exact (h.made f.l.toNat (by have := hf.le0 h; omega)).2.2.2
/-- What a proof of a block of the writer says of a text. -/
theorem piece_digest (h : OkW W) {f : FD} (hf : FeedW W f) {i : Nat} (hi : i < f.bs.length) (x : Int) :
    treeOkB f.d f.l (i : Int) x (proofOr (leavesW W f.l.toNat) (i : Int)) = decide (x = textOr (sth (fth W.fs 0).bs i)) := by
  have hlen := hf.len
  have hle := hf.le0 h
  have hm := hf.made h (by omega)
  obtain ⟨v1, v2⟩ := h.leaves f.l.toNat (by omega)
  obtain ⟨h16, hd⟩ := leavesB_yes v1
  have hp := proof_ok (leavesW W f.l.toNat) i h16 (by omega) hd
  rw [v2, show ((f.l.toNat : Nat) : Int) = f.l by omega, nth_leaves W _ i (by omega) (by omega), ← hm.1] at hp
  have e : proofOr (leavesW W f.l.toNat) (i : Int) = proofZ (leavesW W f.l.toNat) i := proofOr_yes v1 (by omega)
  rw [e]
  by_cases hx : x = textOr (sth (fth W.fs 0).bs i)
  · rw [decide_eq_true hx, hx]; exact hp
  · rw [decide_eq_false hx]; exact ok_leaf hp hx
theorem put_ok (h : OkW W) {f : FD} (hf : FeedW W f) {i : Nat} (hi : i < f.bs.length) (hb : bth f.hs i = false) {t : ByteArray} (ht : t.size ≤ 8) (he : textOr t = textOr (sth (fth W.fs 0).bs i)) : putOk f (i : Int) t (proofOr (leavesW W f.l.toNat) (i : Int)) = true := by
  have hlen := hf.len
  refine (putOk_iff _ _ _ _).2 ⟨hf.ok, ht, (lacksB_iff _ _).2 ⟨by omega, by omega, by rw [Int.toNat_natCast]; exact hb⟩, by rw [piece_digest h hf hi, decide_eq_true he], ?_⟩
  rw [Int.toNat_natCast]
  exact (put_feed h hf hi ht he).ok
theorem put_facts (h : OkW W) {f : FD} (hf : FeedW W f) {i : Int} {t : ByteArray} {zs : List Int} (hk : putOk f i t zs = true) (hz : zs = proofOr (leavesW W f.l.toNat) i) : 0 ≤ i ∧ i.toNat < f.bs.length ∧ bth f.hs i.toNat = false ∧ t.size ≤ 8 ∧ textOr t = textOr (sth (fth W.fs 0).bs i.toNat) ∧ FeedW W (putF f i.toNat t) := by
  have hlen := hf.len
  obtain ⟨_, ht, hl, htr, _⟩ := (putOk_iff _ _ _ _).1 hk
  obtain ⟨h0, h1, h2⟩ := (lacksB_iff _ _).1 hl
  have hi : i.toNat < f.bs.length := by omega
  rw [hz, show i = ((i.toNat : Nat) : Int) by omega, piece_digest h hf hi] at htr
  have he := of_decide_eq_true htr
  exact ⟨h0, hi, h2, ht, he, put_feed h hf hi ht he⟩
theorem okW_lose (h : OkW W) (k : Nat) : OkW (loseW W k) :=
  h.nets (by have := h.netlen; have := (List.eraseIdx_sublist W.net k).length_le; omega) fun p hp => h.pieces p ((List.eraseIdx_sublist W.net k).subset hp)
theorem got_win {xs : List AD} (h : winB xs = true) (a : AD) : winB (gotR xs a) = true := by
  unfold gotR
  split
  · split
    · exact win_filter h _
    · exact h
  · rfl
theorem drop_win {xs : List AD} (h : winB xs = true) (p : Int) : winB (dropR xs p) = true := by
  unfold dropR
  split
  · exact win_filter h _
  · rfl
theorem OkW.not0 (h : OkW W) {i : Int} {t : ByteArray} {zs : List Int} : putOk (fth W.fs 0) i t zs = false := putOk_no fun k => by
  obtain ⟨h0, h1, h2⟩ := (lacksB_iff _ _).1 k.2.2.1
  have := h.len0
  rw [h.have0 i.toNat (by omega)] at h2
  cases h2
theorem okW_take (h : OkW W) {p : PcD} (hp : PieceW W p) : OkW (takeW W p) := by
  have hto := hp.to
  have hfr := hp.fr
  have hw := h.wins p.to.toNat (by omega)
  unfold takeW
  simp only
  split
  · rename_i hc
    split
    · rename_i hk
      have h0 : p.to.toNat ≠ 0 := fun e => by rw [e, h.not0] at hk; cases hk
      have hf := h.feeds p.to.toNat (by omega)
      obtain ⟨_, _, _, _, _, hF⟩ := put_facts h hf hk (by rw [hp.pf, hc.2])
      have h1 := h.put h0 (by omega) hF
      exact h1.win (W := { W with fs := W.fs.set p.to.toNat (putF (fth W.fs p.to.toNat) p.ix.toNat p.tx) }) (by show p.to.toNat < (W.fs.set _ _).length; rw [List.length_set]; omega) (got_win hw _)
    · exact h.win (by omega) (drop_win hw _)
  · exact h
theorem okW_net (h : OkW W) (lose : Bool) (k : Int) : OkW (netW W lose k) := by
  unfold netW
  split
  · rename_i hc
    split
    · exact okW_lose h _
    · exact okW_take (okW_lose h _) (by
        have hE : Ext W (loseW W k.toNat) := Ext.same rfl rfl rfl
        exact hE.piece h (h.pieces _ (pcth_mem _ _ (by omega))))
  · exact h
theorem okW_step (h : OkW W) (e : EvD) : OkW (stepW W e) := by
  unfold stepW
  split
  · exact okW_grow h _
  split
  · exact okW_turn h _ _ _
  split
  · exact okW_turn h _ _ _
  split
  · exact okW_head h _ _
  split
  · exact okW_ask h _ _ _
  split
  · exact okW_answer h _ _ _ _
  split
  · exact okW_net h _ _
  split
  · exact okW_net h _ _
  · exact h
end
theorem okW_steps (es : List EvD) : ∀ {W : WD}, OkW W → OkW (stepsW W es) := by
  induction es with
  | nil => intro W h; exact h
  | cons e es ih => intro W h; exact ih (okW_step h e)
end Go.Proofs.Ytkmebilhbjcfpaa
