/- The plain mathematics of runs: every event and the quiet period keep a run valid. Conditions: as each statement says. -/
import Derived.Test.YtkmebilhbjcfpaaWorldData
namespace Go.Proofs.Ytkmebilhbjcfpaa
set_option linter.unusedVariables false

/-! ### lists -/
theorem fth_set (fs : List FD) (k j : Nat) (f : FD) (hk : k < fs.length) : fth (fs.set k f) j = if j = k then f else fth fs j := by
  unfold fth
  rw [List.getD_eq_getElem?_getD, List.getElem?_set, List.getD_eq_getElem?_getD]
  by_cases h : k = j
  · subst h; rw [if_pos rfl, if_pos hk, if_pos rfl]; rfl
  · rw [if_neg h, if_neg (fun e => h e.symm)]
theorem wth_set (aq : List (List AD)) (k j : Nat) (f : List AD) (hk : k < aq.length) : wth (aq.set k f) j = if j = k then f else wth aq j := by
  unfold wth
  rw [List.getD_eq_getElem?_getD, List.getElem?_set, List.getD_eq_getElem?_getD]
  by_cases h : k = j
  · subst h; rw [if_pos rfl, if_pos hk, if_pos rfl]; rfl
  · rw [if_neg h, if_neg (fun e => h e.symm)]
theorem pcth_mem (ps : List PcD) (k : Nat) (h : k < ps.length) : pcth ps k ∈ ps := by
  unfold pcth; rw [List.getD_eq_getElem?_getD, List.getElem?_eq_getElem h]; exact List.getElem_mem h
theorem fth_rep (n k : Nat) (f : FD) (h : k < n) : fth (List.replicate n f) k = f := by
  unfold fth; rw [List.getD_eq_getElem?_getD, List.getElem?_replicate, if_pos h]; rfl
theorem wth_rep (n k : Nat) : wth (List.replicate n []) k = [] := by
  unfold wth; rw [List.getD_eq_getElem?_getD, List.getElem?_replicate]; split <;> rfl
theorem fth_ge (fs : List FD) (k : Nat) (h : fs.length ≤ k) : fth fs k = zeroF := by
  unfold fth; rw [List.getD_eq_getElem?_getD, List.getElem?_eq_none h]; rfl
theorem sth_app (bs cs : List ByteArray) (i : Nat) (h : i < bs.length) : sth (bs ++ cs) i = sth bs i := by
  unfold sth; rw [List.getD_eq_getElem?_getD, List.getElem?_append_left h, List.getD_eq_getElem?_getD]
theorem bth_app (bs cs : List Bool) (i : Nat) (h : i < bs.length) : bth (bs ++ cs) i = bth bs i := by
  unfold bth; rw [List.getD_eq_getElem?_getD, List.getElem?_append_left h, List.getD_eq_getElem?_getD]
theorem bth_last (bs : List Bool) (x : Bool) : bth (bs ++ [x]) bs.length = x := by
  unfold bth; rw [List.getD_eq_getElem?_getD, List.getElem?_append_right (Nat.le_refl _), Nat.sub_self]; rfl
theorem bth_none (bs : List Bool) (i : Nat) (h : bs.length ≤ i) : bth bs i = false := by
  unfold bth; rw [List.getD_eq_getElem?_getD, List.getElem?_eq_none h]; rfl
theorem noneF_iff (hs : List Bool) : noneF hs = true ↔ ∀ k, k < hs.length → bth hs k = true := by unfold noneF; rw [decide_eq_true_eq]

/-! ### the writer -/
section
variable {W : WD}
theorem OkW.npos (h : OkW W) : 1 ≤ W.fs.length ∧ W.fs.length ≤ 6 := by
  have := ((newOk_iff _ _ _).1 h.new).2.1; omega
theorem OkW.sec_ok (h : OkW W) : 1 ≤ W.sec ∧ W.sec < 997 := ((newOk_iff _ _ _).1 h.new).1
theorem OkW.f0 (h : OkW W) : FeedW W (fth W.fs 0) := h.feeds 0 (by have := h.npos; omega)
theorem OkW.len0 (h : OkW W) : ((fth W.fs 0).bs.length : Int) = (fth W.fs 0).l ∧ ((fth W.fs 0).hs.length : Int) = (fth W.fs 0).l ∧ (fth W.fs 0).bs.length ≤ 16 := by
  have hf := (okB_iff _).1 h.ok0
  have := hf.len
  exact ⟨hf.2.2.1.1, hf.2.2.1.2, this.1⟩
theorem OkW.have0 (h : OkW W) (i : Nat) (hi : i < (fth W.fs 0).bs.length) : bth (fth W.fs 0).hs i = true :=
  (noneF_iff _).1 h.whole i (by have := h.len0; omega)
theorem leaves_take_ok {bs : List ByteArray} {hs : List Bool} (h : TextsOk bs hs) (h16 : bs.length ≤ 16) (k : Nat) : leavesB (leafL (bs.take k)) = true := by
  have := h.leaves h16
  obtain ⟨a, b⟩ := leavesB_yes this
  refine leavesB_of (by rw [leafL_length, List.length_take]; omega) fun z hz => ?_
  rw [leafL_take] at hz
  exact b z (List.mem_of_mem_take hz)
theorem OkW.leaves (h : OkW W) (k : Nat) (hk : k ≤ (fth W.fs 0).bs.length) : leavesB (leavesW W k) = true ∧ (leavesW W k).length = k := by
  have hf := (okB_iff _).1 h.ok0
  refine ⟨leaves_take_ok hf.2.2.2.1 hf.len.1 k, ?_⟩
  unfold leavesW
  rw [leafL_length, List.length_take]; omega
theorem nth_leaves (W : WD) (k i : Nat) (hk : k ≤ (fth W.fs 0).bs.length) (hi : i < k) : nth (leavesW W k) i = textOr (sth (fth W.fs 0).bs i) := by
  unfold leavesW
  rw [nth_leafL _ _ (by rw [List.length_take]; omega)]
  congr 1
  unfold sth
  rw [List.getD_eq_getElem?_getD, List.getElem?_take_of_lt hi, List.getD_eq_getElem?_getD]
/-- The head of so many first blocks. -/
theorem OkW.made (h : OkW W) (k : Nat) (hk : k ≤ (fth W.fs 0).bs.length) :
    madeL W.sec (leavesW W k) = k ∧ madeD W.sec (leavesW W k) = digestZ (leavesW W k) ∧ signedB (publicOr W.sec) k (digestZ (leavesW W k)) (madeS W.sec (leavesW W k)) = true ∧
      digestOr (leavesW W k) = digestZ (leavesW W k) := by
  obtain ⟨h1, h2⟩ := h.leaves k hk
  obtain ⟨e1, e2, e3⟩ := made_yes ((madeOk_iff W.sec (leavesW W k)).2 ⟨h.sec_ok, h1⟩)
  obtain ⟨h16, _, d0, d1⟩ := leaves_digest h1
  rw [h2] at e1 e3
  refine ⟨e1, e2, ?_, by unfold digestOr; rw [if_pos h1]⟩
  rw [e3]
  exact signed_made _ _ _ h.sec_ok ⟨by omega, by omega⟩ ⟨d0, d1⟩

/-! ### a feed of a peer -/
theorem FeedW.len {f : FD} (hf : FeedW W f) : (f.bs.length : Int) = f.l ∧ (f.hs.length : Int) = f.l ∧ f.hs.length = f.bs.length ∧ 0 ≤ f.l ∧ f.l ≤ 16 := by
  have k := (okB_iff _).1 hf.ok
  have := k.2.1.len
  exact ⟨k.2.2.1.1, k.2.2.1.2, by have := k.2.2.1; omega, this.1, this.2⟩
theorem FeedW.le0 {f : FD} (h : OkW W) (hf : FeedW W f) : f.bs.length ≤ (fth W.fs 0).bs.length := by
  have := hf.len; have := hf.le; have := h.len0; omega
/-- What a head that is longer than 0 says. -/
theorem FeedW.made {f : FD} (h : OkW W) (hf : FeedW W f) (hl : f.l ≠ 0) : f.d = digestZ (leavesW W f.l.toNat) ∧ f.s = madeS W.sec (leavesW W f.l.toNat) ∧ signedB f.p f.l f.d f.s = true := by
  have hlen := hf.len
  have hle := hf.le0 h
  obtain ⟨e1, e2, e3, e4⟩ := h.made f.l.toNat (by omega)
  rcases hf.head with k | k
  · exact absurd k hl
  · have hn : ((f.l.toNat : Nat) : Int) = f.l := by omega
    rw [hn] at e3
    refine ⟨by rw [k.2.1, e2], k.2.2, ?_⟩
    rw [hf.key, k.2.1, e2, k.2.2]
    exact e3
/-- Heads of one length, longer than 0, are one. -/
theorem FeedW.one {f g : FD} (h : OkW W) (hf : FeedW W f) (hg : FeedW W g) (e : f.l = g.l) (hl : f.l ≠ 0) : f.d = g.d ∧ f.s = g.s := by
  have a := hf.made h hl
  have b := hg.made h (by omega)
  rw [a.1, a.2.1, b.1, b.2.1, e]
  exact ⟨rfl, rfl⟩

/-! ### runs that are longer -/
/-- The writer of W' has all that the writer of W has. -/
structure Ext (W W' : WD) : Prop where
  sec : W'.sec = W.sec
  n : W'.fs.length = W.fs.length
  l : (fth W.fs 0).l ≤ (fth W'.fs 0).l
  bs : ∃ m, (fth W'.fs 0).bs = (fth W.fs 0).bs ++ m
theorem Ext.leaves {W W' : WD} (h : Ext W W') (k : Nat) (hk : k ≤ (fth W.fs 0).bs.length) : leavesW W' k = leavesW W k := by
  obtain ⟨m, e⟩ := h.bs
  unfold leavesW
  rw [e, List.take_append_of_le_length hk]
theorem Ext.feed {W W' : WD} (h : OkW W) (hE : Ext W W') {f : FD} (hf : FeedW W f) : FeedW W' f := by
  have hlen := hf.len
  have hle := hf.le0 h
  obtain ⟨m, e⟩ := hE.bs
  refine ⟨hf.ok, by rw [hE.sec]; exact hf.key, Int.le_trans hf.le hE.l, fun i hi hb => ?_, ?_⟩
  · rw [e, sth_app _ _ _ (by omega)]; exact hf.same i hi hb
  · rw [hE.sec, hE.leaves _ (by omega)]; exact hf.head
theorem Ext.piece {W W' : WD} (h : OkW W) (hE : Ext W W') {p : PcD} (hp : PieceW W p) : PieceW W' p := by
  have := h.len0
  have := hp.ln
  exact ⟨by rw [hE.n]; exact hp.fr, by rw [hE.n]; exact hp.to, ⟨hp.ln.1, Int.le_trans hp.ln.2 hE.l⟩, hp.ix, hp.tx, by rw [hE.leaves _ (by omega)]; exact hp.pf⟩
theorem Ext.same {W W' : WD} (hs : W'.sec = W.sec) (hn : W'.fs.length = W.fs.length) (h0 : fth W'.fs 0 = fth W.fs 0) : Ext W W' :=
  ⟨hs, hn, by rw [h0]; exact Int.le_refl _, [], by rw [h0, List.append_nil]⟩

/-- A run in which one feed, not the writer's, and one window are others. -/
theorem OkW.put (h : OkW W) {k : Nat} {f : FD} (hk0 : k ≠ 0) (hk : k < W.fs.length) (hf : FeedW W f) : OkW { W with fs := W.fs.set k f } := by
  have e0 : fth (W.fs.set k f) 0 = fth W.fs 0 := by rw [fth_set _ _ _ _ hk, if_neg (fun e => hk0 e.symm)]
  have hE : Ext W { W with fs := W.fs.set k f } := Ext.same rfl (List.length_set ..) e0
  refine ⟨by show newOk W.sec ((W.fs.set k f).length) W.bad = true; rw [List.length_set]; exact h.new, by show okB (fth (W.fs.set k f) 0) = true; rw [e0]; exact h.ok0, by show noneF (fth (W.fs.set k f) 0).hs = true; rw [e0]; exact h.whole, by show LinksW (W.fs.set k f).length W.ls; rw [List.length_set]; exact h.links, by show W.aq.length = (W.fs.set k f).length; rw [List.length_set]; exact h.aslen, h.netlen, fun j hj => ?_, fun j hj => h.wins j (by have : j < (W.fs.set k f).length := hj; rwa [List.length_set] at this), fun p hp => hE.piece h (h.pieces p hp)⟩
  have hj' : j < W.fs.length := by have : j < (W.fs.set k f).length := hj; rwa [List.length_set] at this
  show FeedW _ (fth (W.fs.set k f) j)
  rw [fth_set _ _ _ _ hk]
  split
  · exact hE.feed h hf
  · exact hE.feed h (h.feeds j hj')
theorem OkW.win (h : OkW W) {k : Nat} {xs : List AD} (hk : k < W.fs.length) (hx : winB xs = true) : OkW { W with aq := W.aq.set k xs } := by
  have hE : Ext W { W with aq := W.aq.set k xs } := Ext.same rfl rfl rfl
  refine ⟨h.new, h.ok0, h.whole, h.links, by show (W.aq.set k xs).length = W.fs.length; rw [List.length_set]; exact h.aslen, h.netlen, fun j hj => hE.feed h (h.feeds j hj), fun j hj => ?_, fun p hp => hE.piece h (h.pieces p hp)⟩
  show winB (wth (W.aq.set k xs) j) = true
  rw [wth_set _ _ _ _ (by rw [h.aslen]; exact hk)]
  split
  · exact hx
  · exact h.wins j hj
theorem OkW.nets (h : OkW W) {ps : List PcD} (hl : ps.length ≤ 12) (hp : ∀ p ∈ ps, PieceW W p) : OkW { W with net := ps } := by
  have hE : Ext W { W with net := ps } := Ext.same rfl rfl rfl
  exact ⟨h.new, h.ok0, h.whole, h.links, h.aslen, hl, fun j hj => hE.feed h (h.feeds j hj), h.wins, fun p k => hE.piece h (hp p k)⟩
theorem OkW.conn (h : OkW W) {ls : List LinkD} (hl : LinksW W.fs.length ls) : OkW { W with ls := ls } := by
  have hE : Ext W { W with ls := ls } := Ext.same rfl rfl rfl
  exact ⟨h.new, h.ok0, h.whole, hl, h.aslen, h.netlen, fun j hj => hE.feed h (h.feeds j hj), h.wins, fun p k => hE.piece h (h.pieces p k)⟩
end

/-! ### a new run -/
theorem okW_new {sec n bad : Int} (h : newOk sec n bad = true) : OkW (newW sec n bad) := by
  obtain ⟨h1, h2, h3⟩ := (newOk_iff _ _ _).1 h
  have hlen : (newW sec n bad).fs.length = n.toNat := List.length_replicate
  have e0 : ∀ k, k < n.toNat → fth (newW sec n bad).fs k = newF (publicOr sec) := fun k hk => fth_rep _ _ _ hk
  have hp := publicOr_bd h1
  have hok : okB (newF (publicOr sec)) = true := new_ok hp
  have hF : ∀ k, k < n.toNat → FeedW (newW sec n bad) (fth (newW sec n bad).fs k) := fun k hk => by
    rw [e0 k hk]
    exact ⟨hok, rfl, by rw [e0 0 (by omega)]; exact Int.le_refl _, fun i hi => absurd hi (Nat.not_lt_zero _), .inl rfl⟩
  refine ⟨by rw [hlen, show ((n.toNat : Nat) : Int) = n by omega]; exact h, by rw [e0 0 (by omega)]; exact hok, by rw [e0 0 (by omega)]; rfl, ⟨(fun l hl => by cases hl), .nil⟩, by rw [hlen]; exact List.length_replicate, Nat.zero_le _, fun k hk => hF k (by rwa [hlen] at hk), fun k hk => ?_, fun p hp => by cases hp⟩
  show winB (wth (List.replicate n.toNat []) k) = true
  rw [wth_rep]; rfl

/-! ### the writer grows -/
section
variable {W : WD}
theorem grow_feed (h : OkW W) {t : ByteArray} (ht : t.size ≤ 8) (hl : (fth W.fs 0).bs.length < 16) :
    okB (growF W t) = true ∧ noneF (growF W t).hs = true ∧ (growF W t).l = ((fth W.fs 0).bs.length + 1 : Nat) ∧ (growF W t).p = publicOr W.sec ∧
      (growF W t).d = madeD W.sec (leafL ((fth W.fs 0).bs ++ [t])) ∧ (growF W t).s = madeS W.sec (leafL ((fth W.fs 0).bs ++ [t])) ∧ signedB (growF W t).p (growF W t).l (growF W t).d (growF W t).s = true := by
  have hf := (okB_iff _).1 h.ok0
  have hlen := h.len0
  have htx : TextsOk ((fth W.fs 0).bs ++ [t]) ((fth W.fs 0).hs ++ [true]) := fun k hk => by
    rw [List.length_append] at hk
    have hk1 : k < (fth W.fs 0).bs.length + 1 := hk
    rcases Nat.lt_or_ge k (fth W.fs 0).bs.length with h1 | h1
    · rw [sth_app _ _ _ h1, bth_app _ _ _ (by omega)]; exact hf.2.2.2.1 k h1
    · have : k = (fth W.fs 0).bs.length := by omega
      subst this
      refine ⟨?_, .inr ?_⟩
      · unfold sth; rw [List.getD_eq_getElem?_getD, List.getElem?_append_right (Nat.le_refl _), Nat.sub_self]; exact ht
      · rw [show (fth W.fs 0).bs.length = (fth W.fs 0).hs.length by omega]; exact bth_last _ _
  have hlv : leavesB (leafL ((fth W.fs 0).bs ++ [t])) = true := htx.leaves (by rw [List.length_append]; show _ + 1 ≤ 16; omega)
  have hll : (leafL ((fth W.fs 0).bs ++ [t])).length = (fth W.fs 0).bs.length + 1 := by rw [leafL_length, List.length_append]; rfl
  obtain ⟨e1, e2, e3⟩ := made_yes ((madeOk_iff W.sec _).2 ⟨h.sec_ok, hlv⟩)
  obtain ⟨h16, _, d0, d1⟩ := leaves_digest hlv
  rw [hll] at e1 e3
  have hsg : signedB (publicOr W.sec) ((fth W.fs 0).bs.length + 1 : Nat) (madeD W.sec (leafL ((fth W.fs 0).bs ++ [t]))) (madeS W.sec (leafL ((fth W.fs 0).bs ++ [t]))) = true := by
    rw [e2, e3]
    exact signed_made _ _ _ h.sec_ok ⟨by omega, by omega⟩ ⟨d0, d1⟩
  have hkey := h.f0.key
  have hall : noneF ((fth W.fs 0).hs ++ [true]) = true := (noneF_iff _).2 fun k hk => by
    rw [List.length_append] at hk
    have hk1 : k < (fth W.fs 0).hs.length + 1 := hk
    rcases Nat.lt_or_ge k (fth W.fs 0).hs.length with h1 | h1
    · rw [bth_app _ _ _ h1]; exact (noneF_iff _).1 h.whole k h1
    · have : k = (fth W.fs 0).hs.length := by omega
      subst this; exact bth_last _ _
  refine ⟨okB_yes ⟨?_, .inr ?_, ⟨?_, ?_⟩, htx, fun _ => ?_⟩, hall, e1, hkey, rfl, rfl, ?_⟩
  · show 1 ≤ (fth W.fs 0).p ∧ (fth W.fs 0).p < 997; exact hf.1
  · show signedB (fth W.fs 0).p (madeL W.sec _) _ _ = true; rw [e1, hkey]; exact hsg
  · show (((fth W.fs 0).bs ++ [t]).length : Int) = madeL W.sec _; rw [e1, List.length_append]; rfl
  · show (((fth W.fs 0).hs ++ [true]).length : Int) = madeL W.sec _; rw [e1, List.length_append]; show (((fth W.fs 0).hs.length + 1 : Nat) : Int) = _; omega
  · show digestOr (leafL ((fth W.fs 0).bs ++ [t])) = madeD W.sec _; unfold digestOr; rw [if_pos hlv, e2]
  · show signedB (fth W.fs 0).p (madeL W.sec _) _ _ = true; rw [e1, hkey]; exact hsg
theorem okW_grow (h : OkW W) (t : ByteArray) : OkW (growW W t) := by
  unfold growW
  split
  · rename_i hc
    obtain ⟨ht, hl⟩ := hc
    obtain ⟨g1, g2, g3, g4, g5, g6, _⟩ := grow_feed h ht hl
    have hn := h.npos
    have hlen := h.len0
    have e0 : fth (W.fs.set 0 (growF W t)) 0 = growF W t := by rw [fth_set _ _ _ _ (by omega), if_pos rfl]
    have hE : Ext W { W with fs := W.fs.set 0 (growF W t) } := ⟨rfl, List.length_set .., by show (fth W.fs 0).l ≤ (fth (W.fs.set 0 (growF W t)) 0).l; rw [e0, g3]; omega, [t], by show (fth (W.fs.set 0 (growF W t)) 0).bs = _; rw [e0]; rfl⟩
    have hF0 : FeedW { W with fs := W.fs.set 0 (growF W t) } (growF W t) := by
      refine ⟨g1, g4, by show _ ≤ (fth (W.fs.set 0 (growF W t)) 0).l; rw [e0]; exact Int.le_refl _, fun i _ _ => by show _ = textOr (sth (fth (W.fs.set 0 (growF W t)) 0).bs i); rw [e0], .inr ?_⟩
      have hz : leavesW { W with fs := W.fs.set 0 (growF W t) } (growF W t).l.toNat = leafL ((fth W.fs 0).bs ++ [t]) := by
        unfold leavesW
        show leafL ((fth (W.fs.set 0 (growF W t)) 0).bs.take _) = _
        rw [e0, g3]
        show leafL (((fth W.fs 0).bs ++ [t]).take _) = _
        rw [List.take_of_length_le (by rw [List.length_append]; show _ + 1 ≤ _; omega)]
      rw [hz]
      exact ⟨rfl, rfl, rfl⟩
    refine ⟨by show newOk W.sec ((W.fs.set 0 _).length) W.bad = true; rw [List.length_set]; exact h.new, by show okB (fth (W.fs.set 0 _) 0) = true; rw [e0]; exact g1, by show noneF (fth (W.fs.set 0 _) 0).hs = true; rw [e0]; exact g2, by show LinksW (W.fs.set 0 _).length W.ls; rw [List.length_set]; exact h.links, by show W.aq.length = (W.fs.set 0 _).length; rw [List.length_set]; exact h.aslen, h.netlen, fun j hj => ?_, fun j hj => h.wins j (by have : j < (W.fs.set 0 (growF W t)).length := hj; rwa [List.length_set] at this), fun p hp => hE.piece h (h.pieces p hp)⟩
    have hj' : j < W.fs.length := by have : j < (W.fs.set 0 (growF W t)).length := hj; rwa [List.length_set] at this
    show FeedW _ (fth (W.fs.set 0 (growF W t)) j)
    rw [fth_set _ _ _ _ (by omega)]
    split
    · exact hF0
    · exact hE.feed h (h.feeds j hj')
  · exact h
end
end Go.Proofs.Ytkmebilhbjcfpaa
