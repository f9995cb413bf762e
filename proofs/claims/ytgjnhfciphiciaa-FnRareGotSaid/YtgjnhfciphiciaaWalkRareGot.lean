/- The walk of FnRareGot: it returns true and changes nothing that was there. Condition: the codes' bytes lie in memory. -/
import Derived.Test.YtgjnhfciphiciaaRareLaws
import Derived.Test.YtgjnhfciphiciaaHolders
import Derived.Test.YtgjnhfciphiciaaSame
import Derived.Test.YtgjnhfciphiciaaDrawPeers
namespace Go.Proofs.Ytgjnhfciphiciaa
open Go.RowKit
set_option linter.unusedVariables false

theorem pat_of {w : World} {base : Nat} {Z : Option Addr} {zc : Nat} {xs : List PH} (hO : OwnRow PK w base Z zc xs) (hb : ∀ h ∈ xs, BoolsAt w w.heap.size h.a h.zs ∧ h.zs.length ≤ h.c ∧ h.c ≤ maxLen) (hm : xs.length ≤ 7) : PAt w w.heap.size Z xs :=
  ⟨hO.at_, fun h hx => (hb h hx).1, fun h hx => (hb h hx).2, by unfold maxLen; omega⟩
theorem pat_in {w : World} {Z : Option Addr} {xs : List PH} (h : PAt w w.heap.size Z xs) : ∀ x ∈ xs, BoolsAt w w.heap.size x.a x.zs ∧ x.zs.length ≤ x.c ∧ x.c ≤ maxLen := fun x hx => ⟨h.bits x hx, h.fit x hx⟩
theorem app_keep {W w8 : World} {base b2 zc d : Nat} {Y Z : Option Addr} {hs xs : List PH} {zs : List Bool} {v : Value} (hA : AppendedR PK W base Z hs.length zc xs v w8) (hR : OwnRow PK W base Z zc hs) (hB : OwnBools W b2 Y d zs) : OwnBools w8 b2 Y d zs :=
  obk_block hB fun y hy => hA.grown.block y (obk_lt hB y hy).2 (fun e => bits_apart hR hB y hy e)
theorem take_hth (hs : List PH) (k : Nat) (h : k < hs.length) : hs.take (k + 1) = hs.take k ++ [hth hs k] := by rw [List.take_succ_eq_append_getElem h, hth_eq hs k h]
theorem hth_rev (hs : List PH) (k : Nat) (h : k < hs.length) : hth hs.reverse k = hth hs (hs.length - 1 - k) := by
  rw [hth_eq _ _ (by rw [List.length_reverse]; exact h), hth_eq _ _ (by omega), List.getElem_reverse]
theorem pz_rev (hs : List PH) : pz hs.reverse = (pz hs).reverse := by unfold pz; rw [List.map_reverse]
theorem pz_app (a b : List PH) : pz (a ++ b) = pz a ++ pz b := by unfold pz; rw [List.map_append]

/-- What an append of integers leaves, and where the new row lies. -/
structure AppAt (W : World) (base : Nat) (A : Option Addr) (n c : Nat) (zs : List Int) (v : Value) (w' : World) : Prop where
  own : ∃ A' c', v = .slice A' zs.length c' ∧ OwnInts w' base A' c' zs ∧ ∀ g, A' = some ⟨g, 0, none⟩ → A = some ⟨g, 0, none⟩ ∨ g = W.heap.size
  grown : W.grownBy w' (Value.ownBlock (.slice A n c))
  below : Below base W w'
set_option maxRecDepth 100000 in
theorem run_app_at (W : World) (base ty : Nat) (A : Option Addr) (c : Nat) (ds : List Int) (B : Option Addr) (bc : Nat) (zs : List Int) (hown : OwnInts W base A c ds) (hI : IntsAt W W.heap.size B zs) (hl : ds.length + zs.length ≤ 2147483647) (hbase : base ≤ W.heap.size) (hB : B = none → bc = 0) :
    ∃ v w', (Builtin.append_ #[31, 31] ty #[.slice A ds.length c, .slice B zs.length bc]).run Try.prog W = .ok v w' ∧ AppAt W base A ds.length c (ds ++ zs) v w' := by
  obtain ⟨i0, hi0, hz0, hz1, hz2⟩ := info_parts int_info
  rcases B with _ | ad
  · have h0 : zs = [] := by
      cases zs with
      | nil => rfl
      | cons z zs => obtain ⟨b, o, e, _⟩ := hI (by simp); cases e
    subst h0
    refine ⟨.slice A ds.length c, W, ?_, ⟨A, c, by simp, by simpa using hown, fun g hg => .inl hg⟩, World.grownBy.refl W _, Below.refl _ _⟩
    have hk := hown
    unfold OwnInts at hk
    rcases hk.2 with ⟨hv, hn⟩ | ⟨g, cap, cur, hv, _, _, hnc, _⟩
    · rw [hv]
      simp [Builtin.append_, run_underlying Try.underlying31, sizeOf, typeInfo, hi0, Builtin.lenOf, Builtin.firstCells]
    · rw [hv]
      simp [Builtin.append_, run_underlying Try.underlying31, sizeOf, typeInfo, hi0, Builtin.lenOf, Builtin.firstCells, hnc, storeCells]
  · have hcells : ∀ j u, (vals zs)[j]? = some u → W.cell? (ad.add j) = some u := by
      intro j u hu
      have hj : j < zs.length := by
        have := (List.getElem?_eq_some_iff.1 hu).1
        rwa [vals_length] at this
      obtain ⟨b, o, e, _, hc⟩ := hI (by omega)
      injection e with e
      subst e
      rw [vals_get zs j hj] at hu
      rw [Addr.add_lit, ← hu]
      exact hc j hj
    obtain ⟨v', w', hrun, h2, h3, _, h5⟩ := run_append_own_at (P := Try.prog) W base 31 ty 3 i0 _ 1 8 Try.underlying31 hi0 hz0 hz1 hz2 rfl (by omega) _ ds.length (vals ds) hown ad zs.length bc (vals zs) (by rw [vals_length, Nat.mul_one]) hcells (vals_one zs) (by unfold maxLen; omega) (by omega) hbase
    refine ⟨v', w', hrun, ?_, h3, (Below.refl _ _).grown h3 hbase (fun k hk => hown.far k hk)⟩
    rw [← vals_append] at h2
    rcases h2.2 with ⟨hv, hn⟩ | ⟨g, cap, cur, hv, hr⟩
    · refine ⟨none, 0, ?_, ?_, fun g hg => by cases hg⟩
      · rw [hv, List.length_append, hn]
      · unfold OwnInts; rw [List.length_append, hn]; rw [hn, hv] at h2; exact h2
    · refine ⟨some ⟨g, 0, none⟩, cap, ?_, ?_, fun g' hg => ?_⟩
      · rw [hv, List.length_append]
      · unfold OwnInts; rw [List.length_append]; rw [hv] at h2; exact h2
      · have hgg : g = g' := by injection hg with hg; injection hg
        subst hgg
        rw [hv] at h5
        rcases h5 with h5 | h5
        · left
          rcases hown.2 with ⟨ha, _⟩ | ⟨x, c1, cur1, ha, _⟩
          · injection ha with hA _ _; subst hA; cases h5
          · injection ha with hA _ _; subst hA
            simp only [Value.ownBlock, Option.some.injEq] at h5
            rw [h5]
        · right
          simpa [Value.ownBlock] using h5
theorem step_app_at {ops : Array Oper} {o : Oper} {a : Act} {K : Act → World → Prop} {Q : Exit → Act → World → Prop} {E : Prop} (hgd : o.guard = none) (s x : Operand) (ho : o.op = .call { callee := .builtin .append, args := #[s, x], argTypes := #[31, 31] })
    (W : World) (base : Nat) (A : Option Addr) (c : Nat) (ds : List Int) (hs : a.eval s = .slice A ds.length c) (B : Option Addr) (bc : Nat) (zs : List Int) (hx : a.eval x = .slice B zs.length bc)
    (hown : OwnInts W base A c ds) (hI : IntsAt W W.heap.size B zs) (hl : ds.length + zs.length ≤ 2147483647) (hbase : base ≤ W.heap.size) (hB : B = none → bc = 0)
    (h : ∀ v w', AppAt W base A ds.length c (ds ++ zs) v w' → K (a.put o.dst v) w') :
    if Region.wanted o (yielded ops a.tmps) = true then Oper.wp Try.prog o a W K Q else E := by
  have hw : Region.wanted o (yielded ops a.tmps) = true := by simp [Region.wanted, hgd]
  rw [if_pos hw]
  obtain ⟨v', w', hrun, h2⟩ := run_app_at W base o.type A c ds B bc zs hown hI hl hbase hB
  unfold Oper.wp execOp
  simp only [ho, resolve, invoke, builtin, Sem.run_bind, Sem.run_pure, Result.andThen_ok, List.map_toArray, List.map_cons, List.map_nil, hs, hx, hrun]
  exact h v' w' h2
/-- Another row of integers is kept. -/
theorem app_beside {W w' : World} {base b2 c d n : Nat} {E Y : Option Addr} {zs ys : List Int} (hg : W.grownBy w' (Value.ownBlock (.slice E n c))) (hE : OwnInts W base E c zs) (hY : OwnInts W b2 Y d ys) (hne : ∀ y g, Y = some ⟨y, 0, none⟩ → E = some ⟨g, 0, none⟩ → y ≠ g) : OwnInts w' b2 Y d ys :=
  hY.block fun y hy => hg.block y (by subst hy; exact (World.ownsRow.lt hY y rfl).2) (fun e => by
    rcases hE.2 with ⟨ha, _⟩ | ⟨x, c1, cur1, ha, _⟩
    · injection ha with hA _ _; subst hA; cases e
    · injection ha with hA _ _; subst hA
      simp only [Value.ownBlock, Option.some.injEq] at e
      exact hne y x hy rfl e)
theorem rb_stored {w : World} {base b cap : Nat} {zs : List Bool} (h : OwnBools w base (some ⟨b, 0, none⟩) cap zs) (j : Nat) (x : Bool) : OwnBools (w.setCell ⟨b, j, none⟩ (.bool x)) base (some ⟨b, 0, none⟩) cap (zs.set j x) ∧ w.grownBy (w.setCell ⟨b, j, none⟩ (.bool x)) (some b) := by
  have := World.ownsRow.stored h j (.bool x)
  refine ⟨?_, this.2⟩
  unfold OwnBools
  rw [List.length_set]
  have e : bals (zs.set j x) = (bals zs).set j (vb x) := by unfold bals; rw [List.map_set]
  rw [e]
  exact this.1
theorem rb_cell {w : World} {base b cap : Nat} {zs : List Bool} (h : OwnBools w base (some ⟨b, 0, none⟩) cap zs) (j : Nat) (hj : j < zs.length) : w.cell? ⟨b, j, none⟩ = some (.bool (bth zs j)) ∧ w.frozen? ⟨b, j, none⟩ = false := by
  have h1 := (h.ints.lt (by omega)).2 j hj
  rw [Nat.zero_add] at h1
  exact ⟨h1, World.ownsRow.frozenAt h j⟩
theorem ob_nil_cap {w : World} {base : Nat} {A : Option Addr} {cap : Nat} {zs : List Bool} (h : OwnBools w base A cap zs) : A = none → cap = 0 := by
  rcases h.2 with ⟨hv, _⟩ | ⟨g, c, cur, hv, _⟩
  · injection hv with _ _ hc; exact fun _ => hc
  · injection hv with hA _ _; intro e; rw [e] at hA; cases hA
theorem bth_put (mine : List Bool) (j t : Nat) (ht : t < mine.length + j) (b : Nat) : bth ((mine ++ List.replicate j false).set t true) b = (bth mine b || decide (b = t)) := by
  unfold bth
  rw [List.getD_eq_getElem?_getD, List.getD_eq_getElem?_getD, List.getElem?_set]
  by_cases h : t = b
  · subst h
    rw [if_pos rfl, if_pos (by rw [List.length_append, List.length_replicate]; exact ht)]
    simp
  · rw [if_neg h, decide_eq_false (fun e => h e.symm), Bool.or_false, List.getElem?_append]
    split
    · rfl
    · rename_i hb
      rw [List.getElem?_replicate, List.getElem?_eq_none (by omega)]
      split <;> rfl

set_option maxHeartbeats 16000000 in
set_option maxRecDepth 100000 in
theorem walkRareGot (A : Option Addr) (len cap : Nat) (A1 : Option Addr) (len1 cap1 : Nat) (w : World) (hI : In w A len cap) (hI1 : In w A1 len1 cap1) :
    Calls Try.prog 11 #[.slice A len cap, .slice A1 len1 cap1] w fun e w' => e = .returned (.bool true) ∧ Below w.heap.size w w' := by
  have hm := hI.len_le
  unfold maxLen at hm
  have hm1 := hI1.len_le
  unfold maxLen at hm1
  have HI := Lib.hid hI
  clear hI
  by_cases hlen : len ≤ 1048576
  · by_cases hlen1 : len1 ≤ 1048576
    · go_enter Try.func11, Try.ntmps11
      go_wp2_with fail
      refine (drawRareOrder_any A len cap _ HI.out).mono ?_
      rintro e w1 ⟨X, c, hs, Y, d, mine, rfl, hl7, hm18, hp1, ho1, hb1⟩
      have PP1 := Lib.hid hp1
      have PM1 := Lib.hid ho1
      have HB1 := Lib.hid hb1
      clear hp1 ho1 hb1
      obtain ⟨n, HN⟩ : ∃ v, Hid (hs.length = v) := ⟨_, rfl⟩
      obtain ⟨m, HM⟩ : ∃ v, Hid (mine.length = v) := ⟨_, rfl⟩
      obtain ⟨os, HOS⟩ : ∃ v, Hid (natZ (orderN (pz hs) mine) = v) := ⟨_, rfl⟩
      obtain ⟨l, HL⟩ : ∃ v, Hid (os.length = v) := ⟨_, rfl⟩
      rw [HN.out] at hl7
      rw [HM.out] at hm18
      have hl16 : l ≤ 16 := by rw [← HL.out, ← HOS.out, natZ_length]; exact orderN_len _ _
      have HLM : Hid (os.length ≤ maxLen) := by show _ ≤ _; rw [HL.out]; unfold maxLen; omega
      rw [HN.out, HM.out]
      go_wp2_with fail
      have CI := Lib.hid (order_any X c hs Y d mine w1 PP1.out PM1.out.ints)
      rw [HN.out, HM.out, HOS.out] at CI
      refine CI.out.mono ?_
      rintro e w2 ⟨A2, c2, rfl, ho2, hb2⟩
      rw [HL.out]
      have PO2 := Lib.hid ho2
      clear ho2 CI
      have PP2 := Lib.hid (PP1.out.belowS hb2)
      have PM2 := Lib.hid (PM1.out.below hb2)
      have HB2 : Hid (Below w.heap.size w w2) := HB1.out.trans (hb2.mono HB1.out.size)
      clear hb2
      go_wp2_with fail
      have CI := Lib.hid (sorder_any X c hs Y d mine w2 PP2.out PM2.out.ints)
      rw [HN.out, HM.out, HOS.out] at CI
      refine CI.out.mono ?_
      rintro e w3 ⟨A3, c3, rfl, ho3, hb3⟩
      rw [HL.out]
      have PW3 := Lib.hid ho3
      clear ho3 CI
      have PP3 := Lib.hid (PP2.out.belowS hb3)
      have PM3 := Lib.hid (PM2.out.below hb3)
      have HB3 : Hid (Below w.heap.size w w3) := HB2.out.trans (hb3.mono HB2.out.size)
      have PO3 := Lib.hid (PO2.out.below hb3)
      clear hb3
      go_wp2_with fail
      have CI := Lib.hid (same_any A2 c2 os A3 c3 os w3 PO3.out.ints PW3.out.ints HLM.out HLM.out)
      rw [HL.out] at CI
      refine CI.out.mono ?_
      rintro e w4 ⟨rfl, q, hq⟩
      have hb4 : Below w3.heap.size w3 w4 := by rw [hq]; exact below_drewN (Below.refl _ _) q
      clear hq CI
      rw [deci_self os]
      have PP4 := Lib.hid (PP3.out.belowS hb4)
      have PM4 := Lib.hid (PM3.out.below hb4)
      have HB4 : Hid (Below w.heap.size w w4) := HB3.out.trans (hb4.mono HB3.out.size)
      have PO4 := Lib.hid (PO3.out.below hb4)
      have PW4 := Lib.hid (PW3.out.below hb4)
      clear hb4
      by_cases hl0 : l = 0
      · subst hl0
        go_wp2_with fail
        have CI := Lib.hid (same_any A2 c2 os A3 c3 os w4 PO4.out.ints PW4.out.ints HLM.out HLM.out)
        rw [HL.out] at CI
        refine CI.out.mono ?_
        rintro e w5 ⟨rfl, q, hq⟩
        have hb5 : Below w4.heap.size w4 w5 := by rw [hq]; exact below_drewN (Below.refl _ _) q
        clear hq CI
        rw [deci_self os]
        have PP5 := Lib.hid (PP4.out.belowS hb5)
        have PM5 := Lib.hid (PM4.out.below hb5)
        have HB5 : Hid (Below w.heap.size w w5) := HB4.out.trans (hb5.mono HB4.out.size)
        have PO5 := Lib.hid (PO4.out.below hb5)
        have PW5 := Lib.hid (PW4.out.below hb5)
        clear hb5
        go_wp2
        go_ret
        exact ⟨rfl, HB5.out⟩
      · have hl0i : ¬ l = 0 := hl0
        have hlb : ((l : Int) == 0) = false := beq_eq_false_iff_ne.2 (by omega)
        have hlb2 : (l == 0) = false := beq_eq_false_iff_ne.2 (by omega)
        have hlz : ¬ (l : Int) = 0 := by omega
        have hc := orderN_some (ps := pz hs) (mine := mine) (by rw [← natZ_length, HOS.out, HL.out]; omega)
        have hm16 : m ≤ 16 := by rw [← HM.out]; exact hc.2
        have HC := Lib.hid hc
        clear hc
        obtain ⟨k, HK⟩ : ∃ k, Hid (len1 % l = k) := ⟨_, rfl⟩
        have hkl : k < l := by rw [← HK.out]; exact Nat.mod_lt _ (by omega)
        have hmodt : (len1 : Int).tmod (l : Int) = (k : Int) := by rw [← HK.out]; exact tmod_nat len1 l
        have hki : (k : Int) < (l : Int) := by omega
        have hlo : k < (orderN (pz hs) mine).length := by rw [← natZ_length, HOS.out, HL.out]; exact hkl
        have ht16 := orderN_at (ps := pz hs) (mine := mine) hlo
        have hnk := nth_natZ (orderN (pz hs) mine) k hlo
        rw [HOS.out] at hnk
        have HTT : Hid (∃ h : k < (orderN (pz hs) mine).length, True) := ⟨hlo, trivial⟩
        obtain ⟨t, HT⟩ : ∃ v, Hid ((orderN (pz hs) mine)[k]'hlo = v) := ⟨_, rfl⟩
        rw [HT.out] at ht16 hnk
        have hcl := PO4.out.le
        rw [HL.out] at hcl
        obtain ⟨b, o, hA, hbw, hcc⟩ := PO4.out.ints (by rw [HL.out]; omega)
        have hck := hcc k (by rw [HL.out]; exact hkl)
        rw [hnk] at hck
        subst hA
        have HB5 : Hid (Below w4.heap.size w4 (w4.alloc (.cells #[] 4))) := (Below.refl _ _).alloc (Nat.le_refl _) _
        go_wp2_with (at_builtin; refine wpList_app_bools rfl (.tmp 47) (.tmp 48) rfl _ w4.heap.size (some ⟨w4.heap.size, 0, none⟩) 0 [] rfl Y d mine (by rw [HM.out]; rfl) (OwnBools.new w4) (PM4.out.ints.allocS _) (by rw [HM.out]; simp; omega) (by simp) (ob_nil_cap PM4.out) ?_; intro v w6 hA)
        obtain ⟨⟨Z0, zc0, rfl, hO6⟩, hg6, hb6⟩ := hA
        rw [List.nil_append] at hO6 ⊢
        have HO6 : Hid (OwnBools w6 w4.heap.size Z0 zc0 (mine ++ List.replicate 0 false)) := by
          show OwnBools w6 w4.heap.size Z0 zc0 (mine ++ [])
          rw [List.append_nil]; exact hO6
        have HB6 : Hid (Below w4.heap.size w4 w6) := HB5.out.trans hb6
        rw [HM.out]
        clear hO6 hg6 hb6 HB5
        go_wp2
        go_loopg [10] 16 (fun gg x wr => ∃ (Z : Option Addr) (zc j lx : Nat), t + 1 - lx ≤ gg ∧ x = .slice Z lx zc ∧ lx ≤ 16 ∧ Hid (m + j = lx) ∧ Hid (OwnBools wr w4.heap.size Z zc (mine ++ List.replicate j false)) ∧ Hid (Below w4.heap.size w4 wr))
        case atStart => exact ⟨Z0, zc0, 0, m, by omega, rfl, hm16, rfl, HO6, HB6⟩
        case round =>
          clear HO6 HB6
          obtain ⟨Z, zc, j, lx, hgg, rfl, hlx, HJ, HO, HBr⟩ := hrel
          have HLK : Hid ((mine ++ List.replicate j false).length = lx) := by show _ = _; rw [List.length_append, List.length_replicate, HM.out, HJ.out]
          have hzr : w4.heap.size ≤ wr.heap.size := HBr.out.size
          have hcr := (HBr.out.cell (p := ⟨b, o + k, none⟩) hbw).trans hck
          by_cases hlt : lx ≤ t
          · have hlti : (lx : Int) ≤ (t : Int) := by omega
            go_wp2_with (at_builtin; refine wpList_app_bools rfl (.tmp 57) (.tmp 58) rfl _ w4.heap.size Z zc (mine ++ List.replicate j false) (by rw [HLK.out]; rfl) _ _ [false] rfl (HO.out.alloc _) (one_newB _ _) (by rw [HLK.out]; simp; omega) (by simp; omega) (by simp) ?_; intro v w7 hA)
            obtain ⟨⟨Z', zc', rfl, hO7⟩, hg7, hb7⟩ := hA
            have e : (mine ++ List.replicate j false) ++ [false] = mine ++ List.replicate (j + 1) false := by rw [List.append_assoc, ← List.replicate_succ']
            rw [e] at hO7 ⊢
            have HO7 := Lib.hid hO7
            have HB7 : Hid (Below w4.heap.size w4 w7) := (HBr.out.alloc hzr _).trans hb7
            have hlen : (mine ++ List.replicate (j + 1) false).length = lx + 1 := by rw [← e, List.length_append, HLK.out]; rfl
            rw [hlen]
            have HJ7 : Hid (m + (j + 1) = lx + 1) := by show _ = _; have := HJ.out; omega
            clear hO7 hg7 hb7 e hlen hcr
            go_wp2
            go_roundg (t - lx)
            case measure => omega
            case rel => exact ⟨Z', zc', j + 1, lx + 1, by omega, rfl, by omega, HJ7, HO7, HB7⟩
          · have hlti : ¬ (lx : Int) ≤ (t : Int) := by omega
            have htl : (t : Int) < (lx : Int) := by omega
            obtain ⟨zb, hZ⟩ := HO.out.some_ (by rw [HLK.out]; omega)
            subst hZ
            obtain ⟨hcx, hfx⟩ := rb_cell HO.out t (by rw [HLK.out]; omega)
            have hst := (rb_stored HO.out t true).1
            have hzb : w4.heap.size ≤ zb := (World.ownsRow.lt HO.out zb rfl).1
            have HBS : Hid (Below w4.heap.size w4 (wr.setCell ⟨zb, t, none⟩ (.bool true))) := HBr.out.setCell (p := ⟨zb, t, none⟩) hzb _
            have HXV : Hid (∀ b, b < 16 → bth ((mine ++ List.replicate j false).set t true) b = (bth mine b || decide (b = t))) := fun b _ => bth_put mine j t (by rw [HM.out, HJ.out]; omega) b
            have hxl : ((mine ++ List.replicate j false).set t true).length = lx := by rw [List.length_set]; exact HLK.out
            obtain ⟨x1, HX1⟩ : ∃ v, Hid ((mine ++ List.replicate j false).set t true = v) := ⟨_, rfl⟩
            rw [HX1.out] at hst HXV hxl
            have HLX := Lib.hid hxl
            have hord : orderN (pz hs) x1 = (orderN (pz hs) mine).take k ++ (orderN (pz hs) mine).drop (k + 1) := by
              rw [orderN_put HC.out (by rw [HLX.out]; exact hlx) HXV.out, ← HT.out]
              exact filter_one (orderN_nodup _ _) hlo
            have hys : natZ (orderN (pz hs) x1) = os.take k ++ os.drop (k + 1) := by
              rw [hord, ← HOS.out]; unfold natZ; rw [List.map_append, List.map_take, List.map_drop]
            obtain ⟨ys, HSP⟩ : ∃ v, Hid (os.take k ++ os.drop (k + 1) = v) := ⟨_, rfl⟩
            have HEQ : Hid (natZ (orderN (pz hs) x1) = ys) := hys.trans HSP.out
            have HT1 : Hid ((os.take k).length = k) := by show _ = _; rw [List.length_take, HL.out]; omega
            have HT2 : Hid ((os.drop (k + 1)).length = l - (k + 1)) := by show _ = _; rw [List.length_drop, HL.out]
            have hly : ys.length = l - 1 := by rw [← HSP.out, List.length_append, HT1.out, HT2.out]; omega
            have HD : Hid (∀ U, Below w4.heap.size w4 U → IntsAt U U.heap.size (if c2 = k + 1 then some ⟨b, o, none⟩ else some ⟨b, o + (k + 1), none⟩) (os.drop (k + 1))) := fun U hU => by
              split
              · rename_i hcq
                have he : os.drop (k + 1) = [] := List.drop_eq_nil_of_le (by rw [HL.out]; omega)
                rw [he]; exact IntsAt.nil
              · have := (PO4.out.below hU).ints.part (k + 1) (l - (k + 1)) rfl
                rwa [List.take_of_length_le (by rw [HT2.out]; exact Nat.le_refl _)] at this
            obtain ⟨ly, HLY⟩ : ∃ v, Hid (ys.length = v) := ⟨_, rfl⟩
            rw [HLY.out] at hly
            have HLYM : Hid (ys.length ≤ maxLen) := by show _ ≤ _; rw [HLY.out]; unfold maxLen; omega
            have hcki : (k : Int) ≤ (c2 : Int) := by omega
            have hwk : IntKind.i64.wrap ((k : Int) + 1) = (k : Int) + 1 := IntWalk.i64_in _ (by omega)
            have hkn0 : (0 : Int) ≤ (k : Int) + 1 := by omega
            have hktn : ((k : Int) + 1).toNat = k + 1 := by omega
            have hk1i : (k : Int) + 1 ≤ (l : Int) := by omega
            have hk1c : (k : Int) + 1 ≤ (c2 : Int) := by omega
            clear hys hord hxl hcc hnk HTT hly
            go_wp2_with fail
            obtain ⟨ws, HWE⟩ : ∃ U, Hid (wr.setCell ⟨zb, t, none⟩ (.bool true) = U) := ⟨_, rfl⟩
            have HWS : Hid (Below w4.heap.size w4 ws) := by rw [← HWE.out]; exact HBS.out
            have HXS : Hid (OwnBools ws w4.heap.size (some ⟨zb, 0, none⟩) zc x1) := by rw [← HWE.out]; exact hst
            rw [HWE.out]
            clear HBS hst hcx hfx hcr
            refine wp_region_held_drew (S := (fun _ => True)) (by kernel_rfl) (trivial) (fun hHeld => ?_)
            obtain ⟨U0, HUE⟩ : ∃ U, Hid (ws.drew = U) := ⟨_, rfl⟩
            have HW0 : Hid (Below w4.heap.size w4 U0) := by rw [← HUE.out]; exact below_drew HWS.out
            have HX0 : Hid (OwnBools U0 w4.heap.size (some ⟨zb, 0, none⟩) zc x1) := by rw [← HUE.out]; exact HXS.out
            rw [HUE.out]
            refine wpAnyH_take (i := 0) (v := ?zv1) rfl (by kernel_rfl) (by kernel_rfl) (by kernel_rfl) (fun _ _ _ h => h) (Or.inl ⟨by kernel_rfl, ?zy1⟩) (by assumption) ?zr1
            case zy1 => (intro w hSw; (try dsimp only at hSw); go_simp; try with_reducible rfl)
            change wpAnyH _ _ _ _ _ _ _ (Act.put _ (some 66) _) _
            simp only [Act.put, List.setIfInBounds_toArray, List.set_cons_zero, List.set_cons_succ]
            refine wpAnyH_take (i := 1) (v := ?zv2) rfl (by kernel_rfl) (by kernel_rfl) (by kernel_rfl) (fun _ _ _ h => h) (Or.inl ⟨by kernel_rfl, ?zy2⟩) (by assumption) ?zr2
            case zy2 => (intro w hSw; (try dsimp only at hSw); go_simp; try with_reducible rfl)
            change wpAnyH _ _ _ _ _ _ _ (Act.put _ (some 67) _) _
            simp only [Act.put, List.setIfInBounds_toArray, List.set_cons_zero, List.set_cons_succ]
            refine wpAnyH_take (i := 4) (v := ?zv3) rfl (by kernel_rfl) (by kernel_rfl) (by kernel_rfl) (fun _ _ _ h => h) (Or.inl ⟨by kernel_rfl, ?zy3⟩) (by assumption) ?zr3
            case zy3 => (intro w hSw; (try dsimp only at hSw); go_simp; try with_reducible rfl)
            change wpAnyH _ _ _ _ _ _ _ (Act.put _ (some 70) _) _
            simp only [Act.put, List.setIfInBounds_toArray, List.set_cons_zero, List.set_cons_succ]
            refine wpAnyH_take (i := 5) (v := ?zv4) rfl (by kernel_rfl) (by kernel_rfl) (by kernel_rfl) (fun _ _ _ h => h) (Or.inl ⟨by kernel_rfl, ?zy4⟩) (by assumption) ?zr4
            case zy4 => (intro w hSw; (try dsimp only at hSw); go_simp; try with_reducible rfl)
            change wpAnyH _ _ _ _ _ _ _ (Act.put _ (some 71) _) _
            simp only [Act.put, List.setIfInBounds_toArray, List.set_cons_zero, List.set_cons_succ]
            refine wpAnyH_take (i := 8) (v := ?zv5) rfl (by kernel_rfl) (by kernel_rfl) (by kernel_rfl) (fun _ _ _ h => h) (Or.inl ⟨by kernel_rfl, ?zy5⟩) (by assumption) ?zr5
            case zy5 => (intro w hSw; (try dsimp only at hSw); go_simp; try with_reducible rfl)
            change wpAnyH _ _ _ _ _ _ _ (Act.put _ (some 74) _) _
            simp only [Act.put, List.setIfInBounds_toArray, List.set_cons_zero, List.set_cons_succ]
            refine wpAnyH_take (i := 9) (v := ?zv6) rfl (by kernel_rfl) (by kernel_rfl) (by kernel_rfl) (fun _ _ _ h => h) (Or.inl ⟨by kernel_rfl, ?zy6⟩) (by assumption) ?zr6
            case zy6 => (intro w hSw; (try dsimp only at hSw); go_simp; try with_reducible rfl)
            change wpAnyH _ _ _ _ _ _ _ (Act.put _ (some 75) _) _
            simp only [Act.put, List.setIfInBounds_toArray, List.set_cons_zero, List.set_cons_succ]
            refine wpAnyH_take (i := 6) (v := ?zv7) rfl (by kernel_rfl) (by kernel_rfl) (by kernel_rfl) (fun _ _ _ h => h) (Or.inl ⟨by kernel_rfl, ?zy7⟩) (by assumption) ?zr7
            case zy7 => (intro w hSw; (try dsimp only at hSw); go_simp; try with_reducible rfl)
            change wpAnyH _ _ _ _ _ _ _ (Act.put _ (some 72) _) _
            simp only [Act.put, List.setIfInBounds_toArray, List.set_cons_zero, List.set_cons_succ]
            refine wpAnyH_take (i := 10) (v := ?zv8) rfl (by kernel_rfl) (by kernel_rfl) (by kernel_rfl) (fun _ _ _ h => h) (Or.inl ⟨by kernel_rfl, ?zy8⟩) (by assumption) ?zr8
            case zy8 => (intro w hSw; (try dsimp only at hSw); go_simp; try with_reducible rfl)
            change wpAnyH _ _ _ _ _ _ _ (Act.put _ (some 76) _) _
            simp only [Act.put, List.setIfInBounds_toArray, List.set_cons_zero, List.set_cons_succ]
            refine wpAnyH_take (i := 11) (v := ?zv9) rfl (by kernel_rfl) (by kernel_rfl) (by kernel_rfl) (fun _ _ _ h => h) (Or.inl ⟨by kernel_rfl, ?zy9⟩) (by assumption) ?zr9
            case zy9 => (intro w hSw; (try dsimp only at hSw); go_simp; try with_reducible rfl)
            change wpAnyH _ _ _ _ _ _ _ (Act.put _ (some 77) _) _
            simp only [Act.put, List.setIfInBounds_toArray, List.set_cons_zero, List.set_cons_succ]
            refine wpAnyH_ready (rs := [2, 3]) (by kernel_rfl) (by simp) (AllReadyH.cons rfl (fun K hK => ?zo10_0) (AllReadyH.cons rfl (fun K hK => ?zo10_1) AllReadyH.nil))
            case zo10_0 =>
              go_simp
              have CO := Lib.hid (order_any X c hs (some ⟨zb, 0, none⟩) zc x1 U0 (PP4.out.belowS HW0.out) HX0.out.ints)
              rw [HN.out, HLX.out, HEQ.out] at CO
              go_at_call 18
              refine CO.out.mono ?_
              rintro e U1 ⟨Av, cv, rfl, hov, hb1⟩
              rw [HLY.out]
              have HW1 : Hid (Below w4.heap.size w4 U1) := HW0.out.trans (hb1.mono HW0.out.size)
              have HX1 := Lib.hid (HX0.out.below hb1)
              have YY1 := Lib.hid hov
              clear hov hb1 CO
              refine hK.out _ _ (trivial) (fun hHeld => ?_)
              clear hK K
              (try simp only [Act.put, List.setIfInBounds_toArray, List.set_cons_zero, List.set_cons_succ])
              refine wpAnyH_ready (rs := [3]) (by kernel_rfl) (by simp) (AllReadyH.cons rfl (fun K hK => ?zo11_0) AllReadyH.nil)
              case zo11_0 =>
                go_simp
                refine hK.out _ _ (trivial) (fun hHeld => ?_)
                clear hK K
                (try simp only [Act.put, List.setIfInBounds_toArray, List.set_cons_zero, List.set_cons_succ])
                obtain ⟨U2, EU2⟩ : ∃ U, Hid (U1.alloc (.cells #[] 3) = U) := ⟨_, rfl⟩
                have hb2 : Below U1.heap.size U1 U2 := by rw [← EU2.out]; exact (Below.refl _ _).alloc (Nat.le_refl _) _
                have HW2 : Hid (Below w4.heap.size w4 U2) := HW1.out.trans (hb2.mono HW1.out.size)
                have HX2 := Lib.hid (HX1.out.below hb2)
                have EE2 : Hid (OwnInts U2 w4.heap.size (some ⟨U1.heap.size, 0, none⟩) 0 []) := by rw [← EU2.out]; exact (OwnInts.new U1).base_le HW1.out.size
                have HZE : Hid (U2.heap.size = U1.heap.size + 1) := by rw [← EU2.out]; exact World.size_alloc _ _
                have YY2 := Lib.hid (YY1.out.below hb2)
                have HAP : Hid (∀ y g, Av = some ⟨y, 0, none⟩ → (some ⟨U1.heap.size, 0, none⟩ : Option Addr) = some ⟨g, 0, none⟩ → y ≠ g) := fun y g hy hg => by
                  have h1 := (World.ownsRow.lt YY1.out y (by rw [hy]; rfl)).2
                  injection hg with hg; injection hg with hg _ _; omega
                clear hb2
                rw [EU2.out]
                refine wpAnyH_ready (rs := [7]) (by kernel_rfl) (by simp) (AllReadyH.cons rfl (fun K hK => ?zo12_0) AllReadyH.nil)
                case zo12_0 =>
                  refine step_app_at rfl (.tmp 69) (.tmp 72) rfl U2 w4.heap.size (some ⟨U1.heap.size, 0, none⟩) 0 [] rfl (some ⟨b, o, none⟩) c2 (os.take k) (by rw [HT1.out]; rfl) EE2.out ((PO4.out.below HW2.out).ints.first k) (by rw [HT1.out]; simp; omega) HW2.out.size (fun e => by cases e) ?_
                  intro v5 U3 hA
                  obtain ⟨E1, e1, rfl, ho5, hne5⟩ := hA.own
                  have YY3 := Lib.hid (app_beside hA.grown EE2.out YY2.out HAP.out)
                  have HW3 : Hid (Below w4.heap.size w4 U3) := HW2.out.trans hA.below
                  have hyl : ∀ y, Av = some ⟨y, 0, none⟩ → y < U2.heap.size := fun y hy => (World.ownsRow.lt YY2.out y (by rw [hy]; rfl)).2
                  have HAP2 : Hid (∀ y g, Av = some ⟨y, 0, none⟩ → E1 = some ⟨g, 0, none⟩ → y ≠ g) := fun y g hy hg => by
                    rcases hne5 g hg with h | h
                    · exact HAP.out y g hy h
                    · have := hyl y hy; omega
                  rw [List.nil_append] at ho5 ⊢
                  have EE3 := Lib.hid ho5
                  clear hA ho5 hne5 hyl
                  rw [HT1.out]
                  refine hK.out _ _ (trivial) (fun hHeld => ?_)
                  clear hK K
                  change wpAnyH _ _ _ _ _ _ _ (Act.put _ (some 73) _) _
                  simp only [Act.put, List.setIfInBounds_toArray, List.set_cons_zero, List.set_cons_succ]
                  refine wpAnyH_ready (rs := [12]) (by kernel_rfl) (by simp) (AllReadyH.cons rfl (fun K hK => ?zo13_0) AllReadyH.nil)
                  case zo13_0 =>
                    refine step_app_at rfl (.tmp 73) (.tmp 77) rfl U3 w4.heap.size E1 e1 (os.take k) (by rw [HT1.out]; rfl) (if c2 = k + 1 then some ⟨b, o, none⟩ else some ⟨b, o + (k + 1), none⟩) (c2 - (k + 1)) (os.drop (k + 1)) (by rw [HT2.out]; rfl) EE3.out (HD.out U3 HW3.out) (by rw [HT2.out]; rw [HT1.out]; omega) HW3.out.size (fun e => by split at e <;> cases e) ?_
                    intro v5 U4 hA
                    obtain ⟨E2, e2, rfl, ho5, hne5⟩ := hA.own
                    have YY4 := Lib.hid (app_beside hA.grown EE3.out YY3.out HAP2.out)
                    have HW4 : Hid (Below w4.heap.size w4 U4) := HW3.out.trans hA.below
                    rw [HSP.out] at ho5 ⊢
                    have EE4 := Lib.hid ho5
                    clear hA ho5 hne5
                    rw [HLY.out]
                    refine hK.out _ _ (trivial) (fun hHeld => ?_)
                    clear hK K
                    change wpAnyH _ _ _ _ _ _ _ (Act.put _ (some 78) _) _
                    simp only [Act.put, List.setIfInBounds_toArray, List.set_cons_zero, List.set_cons_succ]
                    refine wpAnyH_ready (rs := [13]) (by kernel_rfl) (by simp) (AllReadyH.cons rfl (fun K hK => ?zo14_0) AllReadyH.nil)
                    case zo14_0 =>
                      go_simp
                      have CS := Lib.hid (same_any Av cv ys E2 e2 ys U4 YY4.out.ints EE4.out.ints HLYM.out HLYM.out)
                      rw [HLY.out] at CS
                      go_at_call 20
                      refine CS.out.mono ?_
                      rintro e U5 ⟨rfl, q, hq⟩
                      rw [deci_self ys]
                      have HW5 : Hid (Below w4.heap.size w4 U5) := by rw [hq]; exact below_drewN HW4.out q
                      clear hq CS
                      refine hK.out _ _ (trivial) (fun hHeld => ?_)
                      clear hK K
                      (try simp only [Act.put, List.setIfInBounds_toArray, List.set_cons_zero, List.set_cons_succ])
                      refine wpAnyH_take (i := 14) (v := ?zv15) rfl (by kernel_rfl) (by kernel_rfl) (by kernel_rfl) (fun _ _ _ h => h) (Or.inl ⟨by kernel_rfl, ?zy15⟩) (by assumption) ?zr15
                      case zy15 => (intro w hSw; (try dsimp only at hSw); go_simp; try with_reducible rfl)
                      change wpAnyH _ _ _ _ _ _ _ (Act.put _ (some 4) _) _
                      simp only [Act.put, List.setIfInBounds_toArray, List.set_cons_zero, List.set_cons_succ]
                      refine wpAnyH_done (by kernel_rfl) ?_ _
                      go_wp2
                      all_goals (go_ret; exact ⟨rfl, HB4.out.trans (HW5.out.mono HB4.out.size)⟩)
            case zo10_1 =>
              go_simp
              refine hK.out _ _ (trivial) (fun hHeld => ?_)
              clear hK K
              (try simp only [Act.put, List.setIfInBounds_toArray, List.set_cons_zero, List.set_cons_succ])
              obtain ⟨U1, EU1⟩ : ∃ U, Hid (U0.alloc (.cells #[] 3) = U) := ⟨_, rfl⟩
              have hb1 : Below U0.heap.size U0 U1 := by rw [← EU1.out]; exact (Below.refl _ _).alloc (Nat.le_refl _) _
              have HW1 : Hid (Below w4.heap.size w4 U1) := HW0.out.trans (hb1.mono HW0.out.size)
              have HX1 := Lib.hid (HX0.out.below hb1)
              have EE1 : Hid (OwnInts U1 w4.heap.size (some ⟨U0.heap.size, 0, none⟩) 0 []) := by rw [← EU1.out]; exact (OwnInts.new U0).base_le HW0.out.size
              have HZE : Hid (U1.heap.size = U0.heap.size + 1) := by rw [← EU1.out]; exact World.size_alloc _ _
              clear hb1
              rw [EU1.out]
              refine wpAnyH_ready (rs := [2]) (by kernel_rfl) (by simp) (AllReadyH.cons rfl (fun K hK => ?zo16_0) AllReadyH.nil)
              case zo16_0 =>
                go_simp
                have CO := Lib.hid (order_any X c hs (some ⟨zb, 0, none⟩) zc x1 U1 (PP4.out.belowS HW1.out) HX1.out.ints)
                rw [HN.out, HLX.out, HEQ.out] at CO
                go_at_call 18
                refine CO.out.mono ?_
                rintro e U2 ⟨Av, cv, rfl, hov, hb2⟩
                rw [HLY.out]
                have HW2 : Hid (Below w4.heap.size w4 U2) := HW1.out.trans (hb2.mono HW1.out.size)
                have HX2 := Lib.hid (HX1.out.below hb2)
                have YY2 := Lib.hid hov
                have EE2 := Lib.hid (EE1.out.below hb2)
                have hge : U0.heap.size < U1.heap.size := by have h := HZE.out; omega
                have HAP : Hid (∀ y g, Av = some ⟨y, 0, none⟩ → (some ⟨U0.heap.size, 0, none⟩ : Option Addr) = some ⟨g, 0, none⟩ → y ≠ g) := fun y g hy hg => by
                  have h1 := (World.ownsRow.lt hov y (by rw [hy]; rfl)).1
                  injection hg with hg; injection hg with hg _ _; omega
                clear hov hb2 CO
                refine hK.out _ _ (trivial) (fun hHeld => ?_)
                clear hK K
                (try simp only [Act.put, List.setIfInBounds_toArray, List.set_cons_zero, List.set_cons_succ])
                refine wpAnyH_ready (rs := [7]) (by kernel_rfl) (by simp) (AllReadyH.cons rfl (fun K hK => ?zo17_0) AllReadyH.nil)
                case zo17_0 =>
                  refine step_app_at rfl (.tmp 69) (.tmp 72) rfl U2 w4.heap.size (some ⟨U0.heap.size, 0, none⟩) 0 [] rfl (some ⟨b, o, none⟩) c2 (os.take k) (by rw [HT1.out]; rfl) EE2.out ((PO4.out.below HW2.out).ints.first k) (by rw [HT1.out]; simp; omega) HW2.out.size (fun e => by cases e) ?_
                  intro v5 U3 hA
                  obtain ⟨E1, e1, rfl, ho5, hne5⟩ := hA.own
                  have YY3 := Lib.hid (app_beside hA.grown EE2.out YY2.out HAP.out)
                  have HW3 : Hid (Below w4.heap.size w4 U3) := HW2.out.trans hA.below
                  have hyl : ∀ y, Av = some ⟨y, 0, none⟩ → y < U2.heap.size := fun y hy => (World.ownsRow.lt YY2.out y (by rw [hy]; rfl)).2
                  have HAP2 : Hid (∀ y g, Av = some ⟨y, 0, none⟩ → E1 = some ⟨g, 0, none⟩ → y ≠ g) := fun y g hy hg => by
                    rcases hne5 g hg with h | h
                    · exact HAP.out y g hy h
                    · have := hyl y hy; omega
                  rw [List.nil_append] at ho5 ⊢
                  have EE3 := Lib.hid ho5
                  clear hA ho5 hne5 hyl
                  rw [HT1.out]
                  refine hK.out _ _ (trivial) (fun hHeld => ?_)
                  clear hK K
                  change wpAnyH _ _ _ _ _ _ _ (Act.put _ (some 73) _) _
                  simp only [Act.put, List.setIfInBounds_toArray, List.set_cons_zero, List.set_cons_succ]
                  refine wpAnyH_ready (rs := [12]) (by kernel_rfl) (by simp) (AllReadyH.cons rfl (fun K hK => ?zo18_0) AllReadyH.nil)
                  case zo18_0 =>
                    refine step_app_at rfl (.tmp 73) (.tmp 77) rfl U3 w4.heap.size E1 e1 (os.take k) (by rw [HT1.out]; rfl) (if c2 = k + 1 then some ⟨b, o, none⟩ else some ⟨b, o + (k + 1), none⟩) (c2 - (k + 1)) (os.drop (k + 1)) (by rw [HT2.out]; rfl) EE3.out (HD.out U3 HW3.out) (by rw [HT2.out]; rw [HT1.out]; omega) HW3.out.size (fun e => by split at e <;> cases e) ?_
                    intro v5 U4 hA
                    obtain ⟨E2, e2, rfl, ho5, hne5⟩ := hA.own
                    have YY4 := Lib.hid (app_beside hA.grown EE3.out YY3.out HAP2.out)
                    have HW4 : Hid (Below w4.heap.size w4 U4) := HW3.out.trans hA.below
                    rw [HSP.out] at ho5 ⊢
                    have EE4 := Lib.hid ho5
                    clear hA ho5 hne5
                    rw [HLY.out]
                    refine hK.out _ _ (trivial) (fun hHeld => ?_)
                    clear hK K
                    change wpAnyH _ _ _ _ _ _ _ (Act.put _ (some 78) _) _
                    simp only [Act.put, List.setIfInBounds_toArray, List.set_cons_zero, List.set_cons_succ]
                    refine wpAnyH_ready (rs := [13]) (by kernel_rfl) (by simp) (AllReadyH.cons rfl (fun K hK => ?zo19_0) AllReadyH.nil)
                    case zo19_0 =>
                      go_simp
                      have CS := Lib.hid (same_any Av cv ys E2 e2 ys U4 YY4.out.ints EE4.out.ints HLYM.out HLYM.out)
                      rw [HLY.out] at CS
                      go_at_call 20
                      refine CS.out.mono ?_
                      rintro e U5 ⟨rfl, q, hq⟩
                      rw [deci_self ys]
                      have HW5 : Hid (Below w4.heap.size w4 U5) := by rw [hq]; exact below_drewN HW4.out q
                      clear hq CS
                      refine hK.out _ _ (trivial) (fun hHeld => ?_)
                      clear hK K
                      (try simp only [Act.put, List.setIfInBounds_toArray, List.set_cons_zero, List.set_cons_succ])
                      refine wpAnyH_take (i := 14) (v := ?zv20) rfl (by kernel_rfl) (by kernel_rfl) (by kernel_rfl) (fun _ _ _ h => h) (Or.inl ⟨by kernel_rfl, ?zy20⟩) (by assumption) ?zr20
                      case zy20 => (intro w hSw; (try dsimp only at hSw); go_simp; try with_reducible rfl)
                      change wpAnyH _ _ _ _ _ _ _ (Act.put _ (some 4) _) _
                      simp only [Act.put, List.setIfInBounds_toArray, List.set_cons_zero, List.set_cons_succ]
                      refine wpAnyH_done (by kernel_rfl) ?_ _
                      go_wp2
                      all_goals (go_ret; exact ⟨rfl, HB4.out.trans (HW5.out.mono HB4.out.size)⟩)
    · have h9 : 1048576 < len1 := by omega
      clear hlen1
      go_enter Try.func11, Try.ntmps11
      go_wp2
      go_ret
      exact ⟨rfl, Below.refl _ _⟩
  · have h9 : 1048576 < len := by omega
    clear hlen
    go_enter Try.func11, Try.ntmps11
    go_wp2
    go_ret
    exact ⟨rfl, Below.refl _ _⟩

end Go.Proofs.Ytgjnhfciphiciaa
