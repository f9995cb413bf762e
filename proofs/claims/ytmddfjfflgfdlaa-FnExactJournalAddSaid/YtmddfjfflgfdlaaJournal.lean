/- Contracts of JournalValid, withFirst, JournalSync, JournalCrash and JournalAdd: what comes of a journal, in memory of the call's own. Conditions: the journal lies in memory. -/
import Derived.Test.YtmddfjfflgfdlaaQueue
import Derived.Shelf.Abstract
namespace Go.Proofs.Ytmddfjfflgfdlaa
open Go.RowKit Go.Conc
set_option linter.unusedVariables false

/-- The records of a journal lie in memory, below block B. -/
structure JAt (w : World) (B : Nat) (A : Option Addr) (c : Nat) (rs : List RD) : Prop where
  row : RowAt RK w B A rs
  fit : FitR rs
  le : rs.length ≤ c
  most : c ≤ maxLen
  nil0 : A = none → c = 0
section
variable {w w' : World} {B : Nat} {A : Option Addr} {c : Nat} {rs : List RD}
theorem JAt.belowS (h : JAt w w.heap.size A c rs) (hb : Below w.heap.size w w') : JAt w' w'.heap.size A c rs := ⟨h.row.belowS hb, h.fit, h.le, h.most, h.nil0⟩
theorem JAt.allocS (h : JAt w w.heap.size A c rs) (o : Obj) : JAt (w.alloc o) (w.alloc o).heap.size A c rs := ⟨h.row.allocS o, h.fit, h.le, h.most, h.nil0⟩
theorem JAt.first (h : JAt w B A c rs) (n : Nat) : JAt w B A c (rs.take n) := ⟨h.row.first n, h.fit.take n, by rw [List.length_take]; have := h.le; omega, h.most, h.nil0⟩
theorem own_jat {base : Nat} (h : OwnRow RK w base A c rs) (hf : FitR rs) : JAt w w.heap.size A c rs := ⟨h.at_, hf, h.le.1, h.le.2, h.nil_cap⟩
end

set_option maxHeartbeats 1000000 in
theorem recordBad_any (r : RD) (w : World) (hm : r.t.size ≤ maxLen) :
    Calls Try.prog 36 #[recV r] w fun e w' => e = .returned (.bool (!recB r)) ∧ Below w.heap.size w w' := by
  obtain ⟨i, t⟩ := r
  have HM := Lib.hid hm
  clear hm
  go_enter Try.func36, Try.ntmps36
  go_wp2_with fail
  refine (recordValid_any ⟨i, t⟩ _ HM.out).mono ?_
  rintro e w1 ⟨rfl, hb1⟩
  have HB : Hid (Below w.heap.size w w1) := ((Below.refl _ w).alloc (Nat.le_refl _) _).trans (hb1.mono (by simp))
  clear hb1
  go_wp2
  go_ret
  exact ⟨rfl, HB.out⟩

/-- What IndexFunc answers. -/
def IndexRet (w : World) (rs : List RD) (e : Ending) (w' : World) : Prop :=
  ∃ r : Int, e = .returned (.int .i64 r) ∧ (decide (0 ≤ r) = !allB rs) ∧ Below w.heap.size w w'

set_option maxHeartbeats 2000000 in
theorem recIndex_any (A : Option Addr) (cap : Nat) (rs : List RD) (w : World) (hJ : JAt w w.heap.size A cap rs) :
    Calls Try.prog 47 #[.slice A rs.length cap, .func (.func 36) #[] #[]] w (IndexRet w rs) := by
  have HJ := Lib.hid hJ
  have hle := hJ.le
  have hmx := hJ.most
  unfold maxLen at hmx
  obtain ⟨n, HN⟩ : ∃ n, Hid (rs.length = n) := ⟨_, rfl⟩
  rw [HN.out] at hle ⊢
  clear hJ
  have eg : ∀ args w, (callFunc 36 args).run Try.prog w = .ok (.enter 36 args) w := enters_of Try.func36 (by kernel_rfl) rfl
  go_enter Try.func47, Try.ntmps47
  go_wp2
  go_loopw [5, 8] (fun _ i w' => ∃ k : Nat, k ≤ n ∧ i = .int .i64 k ∧ Hid (Below w.heap.size w w') ∧ Hid (∀ j, j < k → recB (rth rs j) = true)) (fun _ i _ => n - (intOf i).toNat)
  case atStart => exact ⟨0, Nat.zero_le _, rfl, Below.refl _ _, fun j hj => absurd hj (Nat.not_lt_zero _)⟩
  case round =>
    obtain ⟨k, hk, rfl, HB, HA⟩ := hrel
    by_cases hlt : k < n
    · have hkz : k < rs.length := by rw [HN.out]; exact hlt
      have hj := HJ.out.belowS HB.out
      obtain ⟨b, o, rfl⟩ := hj.row.some_ (by omega)
      obtain ⟨c0, c1⟩ := rec_cells hj.row k hkz
      have HM := Lib.hid (HJ.out.fit k)
      obtain ⟨ri, HRI⟩ : ∃ x, Hid ((rth rs k).i = x) := ⟨_, rfl⟩
      obtain ⟨rt, HRT⟩ : ∃ x, Hid ((rth rs k).t = x) := ⟨_, rfl⟩
      have HONE : Hid (rth rs k = ⟨ri, rt⟩) := by
        show _ = _
        rw [← HRI.out, ← HRT.out]
      rw [HRI.out] at c0
      rw [HRT.out] at c1 HM
      have hki : (k : Int) < (n : Int) := by omega
      clear hkz hj
      cases hq : recB ⟨ri, rt⟩ with
      | true =>
        have C := Lib.hid (recordBad_any ⟨ri, rt⟩ wr HM.out)
        rw [hq] at C
        go_wp2_with (go_at_fn 36; refine C.out.mono ?_; rintro e w' ⟨rfl, hb'⟩)
        have HB2 : Hid (Below w.heap.size w w') := HB.out.trans (hb'.mono HB.out.size)
        clear hb'
        go_wp2
        go_roundw
        case rel =>
          refine ⟨k + 1, by omega, by go_num, HB2, (show Hid _ from fun j hj => ?_)⟩
          by_cases e : j = k
          · subst e; rw [HONE.out]; exact hq
          · exact HA.out j (by omega)
        case measure => simp [intOf]; omega
      | false =>
        have C := Lib.hid (recordBad_any ⟨ri, rt⟩ wr HM.out)
        rw [hq] at C
        go_wp2_with (go_at_fn 36; refine C.out.mono ?_; rintro e w' ⟨rfl, hb'⟩)
        have HB2 : Hid (Below w.heap.size w w') := HB.out.trans (hb'.mono HB.out.size)
        clear hb'
        have hno : allB rs = false := allB_no (k := k) (by rw [HN.out]; exact hlt) (by rw [HONE.out]; exact hq)
        have HNO := Lib.hid hno
        clear hno
        go_wp2
        go_ret
        exact ⟨(k : Int), rfl, by rw [HNO.out]; simp, HB2.out⟩
    · have hkn : k = n := by omega
      subst hkn
      have HYES : Hid (allB rs = true) := (allB_iff rs).2 fun j hj => HA.out j (by rw [HN.out] at hj; exact hj)
      go_wp2
      go_ret
      exact ⟨-1, rfl, by rw [HYES.out]; decide, HB.out⟩
set_option maxHeartbeats 1000000 in
theorem recContains_any (A : Option Addr) (cap : Nat) (rs : List RD) (w : World) (hJ : JAt w w.heap.size A cap rs) :
    Calls Try.prog 35 #[.slice A rs.length cap, .func (.func 36) #[] #[]] w fun e w' => e = .returned (.bool (!allB rs)) ∧ Below w.heap.size w w' := by
  have C := Lib.hid (recIndex_any A cap rs w hJ)
  clear hJ
  go_enter Try.func35, Try.ntmps35
  go_wp2_with fail
  refine C.out.mono ?_
  rintro e w1 ⟨r, rfl, hr, hb⟩
  have HR := Lib.hid hr
  have HB := Lib.hid hb
  clear hr hb
  go_wp2
  go_ret
  exact ⟨ret_bool HR.out, HB.out⟩

theorem jr_cells {W : World} {g : Nat} {t : TypeId} {v0 v1 : Value} (h : Blk W g t #[v0, v1]) : W.cell? ⟨g, 0, none⟩ = some v0 ∧ W.cell? ⟨g, 1, none⟩ = some v1 := ⟨h.cell 0, h.cell 1⟩

set_option maxHeartbeats 2000000 in
set_option maxRecDepth 100000 in
theorem jvalid_any (A : Option Addr) (cap : Nat) (s : Int) (rs : List RD) (w : World) (hJ : JAt w w.heap.size A cap rs) :
    Calls Try.prog 11 #[journalV A rs.length cap s] w fun e w' => e = .returned (.bool (jokB rs s)) ∧ Below w.heap.size w w' := by
  have C := Lib.hid (recContains_any A cap rs _ (hJ.allocS (.cells #[.slice A rs.length cap, .int .i64 s] 29)))
  have HN0 : Hid (jokB rs s = (decide (rs.length ≤ 20) && (decide (0 ≤ s) && (decide (s ≤ rs.length) && allB rs)))) := rfl
  have hmx := hJ.most
  have hle := hJ.le
  unfold maxLen at hmx
  clear hJ
  obtain ⟨n, HN⟩ : ∃ n, Hid (rs.length = n) := ⟨_, rfl⟩
  rw [HN.out] at C HN0 hle ⊢
  have hbel : Below w.heap.size w (w.alloc (.cells #[.slice A n cap, .int .i64 s] 29)) := (Below.refl _ w).alloc (Nat.le_refl _) _
  have HB0 := Lib.hid hbel
  clear hbel
  by_cases h1 : n ≤ 20
  · by_cases h2 : 0 ≤ s
    · by_cases h3 : s ≤ n
      · have h1i : ¬ 20 < (n : Int) := by omega
        have h2i : ¬ s < 0 := by omega
        have h3i : ¬ (n : Int) < s := by omega
        go_enter Try.func11, Try.ntmps11
        go_wp2_with fail
        refine C.out.mono ?_
        rintro e w1 ⟨rfl, hb1⟩
        have HB : Hid (Below w.heap.size w w1) := HB0.out.trans (hb1.mono HB0.out.size)
        clear hb1
        have HF : Hid ((!(!allB rs)) = jokB rs s) := by
          show _ = _
          rw [HN0.out, decide_eq_true h1, decide_eq_true h2, decide_eq_true h3]
          simp
        go_wp2
        go_ret
        exact ⟨ret_bool (by rw [← HF.out]; simp), HB.out⟩
      · have h1i : ¬ 20 < (n : Int) := by omega
        have h2i : ¬ s < 0 := by omega
        have h3i : (n : Int) < s := by omega
        go_enter Try.func11, Try.ntmps11
        go_wp2
        go_ret
        exact ⟨ret_bool (by rw [HN0.out, decide_eq_false (show ¬ s ≤ (n : Int) by omega)]; simp), HB0.out⟩
    · have h1i : ¬ 20 < (n : Int) := by omega
      have h2i : s < 0 := by omega
      go_enter Try.func11, Try.ntmps11
      go_wp2
      go_ret
      exact ⟨ret_bool (by rw [HN0.out, decide_eq_false (show ¬ 0 ≤ s by omega)]; simp), HB0.out⟩
  · have h1i : 20 < (n : Int) := by omega
    go_enter Try.func11, Try.ntmps11
    go_wp2
    go_ret
    exact ⟨ret_bool (by rw [HN0.out, decide_eq_false (show ¬ n ≤ 20 by omega)]; simp), HB0.out⟩

/-- What a function hands back that makes a journal: in memory of its own; nothing that was there is changed. -/
def RetJ (w : World) (rs : List RD) (s : Int) (e : Ending) (w' : World) : Prop :=
  ∃ A c, e = .returned (journalV A rs.length c s) ∧ OwnRow RK w' w.heap.size A c rs ∧ FitR rs ∧ Below w.heap.size w w'
theorem blk_two {W : World} {g : Nat} {t : TypeId} {u0 u1 : Value} (h : Blk W g t #[u0, u1]) (v0 v1 : Value) : Blk ((W.setCell ⟨g, 0, none⟩ v0).setCell ⟨g, 1, none⟩ v1) g t #[v0, v1] := (h.setOwn 0 v0).setOwn 1 v1
theorem below_two {W w : World} {B g : Nat} (h : Below B w W) (hg : B ≤ g) (v0 v1 : Value) : Below B w ((W.setCell ⟨g, 0, none⟩ v0).setCell ⟨g, 1, none⟩ v1) := (h.setCell (p := ⟨g, 0, none⟩) hg v0).setCell (p := ⟨g, 1, none⟩) hg v1
theorem own_ne_blk {W : World} {base g c : Nat} {A : Option Addr} {rs : List RD} {t : TypeId} {cs : Array Value} (h : OwnRow RK W base A c rs) (hk : Blk W g t cs) (ht : RK.e ≠ t) : ∀ x, A = some ⟨x, 0, none⟩ → x ≠ g := by
  intro x hA e
  subst e
  have := own_blk_ne h hk ht
  rw [hA] at this
  exact this rfl
theorem rown_block {w w' : World} {base c : Nat} {A : Option Addr} {rs : List RD} (h : OwnRow RK w base A c rs) (hk : ∀ g, A = some ⟨g, 0, none⟩ → w'.heap[g]? = w.heap[g]?) : OwnRow RK w' base A c rs := by
  refine ⟨h.1, ?_⟩
  rcases h.2 with h0 | ⟨g, c, cur, hv, hg, hgb, hr⟩
  · exact .inl h0
  · have hA : A = some ⟨g, 0, none⟩ := by injection hv
    exact .inr ⟨g, c, cur, hv, hg, (hk g hA).trans hgb, hr⟩
theorem rown_two {W : World} {base g c : Nat} {A : Option Addr} {rs : List RD} {cs : Array Value} (h : OwnRow RK W base A c rs) (hk : Blk W g 29 cs) (v0 v1 : Value) : OwnRow RK ((W.setCell ⟨g, 0, none⟩ v0).setCell ⟨g, 1, none⟩ v1) base A c rs := by
  have hne := own_ne_blk h hk (by decide)
  exact rown_block h fun x hx => (Below.heap_setCell _ ⟨g, 1, none⟩ _ x (hne x hx)).trans (Below.heap_setCell _ ⟨g, 0, none⟩ _ x (hne x hx))

set_option maxHeartbeats 4000000 in
set_option maxRecDepth 100000 in
theorem withFirst_any (A : Option Addr) (cap : Nat) (s : Int) (rs : List RD) (k : Nat) (w : World) (hJ : JAt w w.heap.size A cap rs) (hk : k ≤ rs.length) (h20 : rs.length ≤ 20) :
    Calls Try.prog 45 #[journalV A rs.length cap s, .int .i64 (k : Int)] w (RetJ w (rs.take k) k) := by
  have hle := hJ.le
  have hmx := hJ.most
  unfold maxLen at hmx
  have hnil := hJ.nil0
  have HLT : Hid ((rs.take k).length = k) := by show _ = _; rw [List.length_take]; omega
  have HFIT : Hid (FitR (rs.take k)) := hJ.fit.take k
  have CQ : Hid (∀ U, Below w.heap.size w U → Calls Try.prog 40 #[.slice A k cap] U (Queued U (rs.take k))) := fun U hU => by
    have h := recordQueue_any A cap (rs.take k) U ((hJ.belowS hU).first k).row (by rw [HLT.out]; omega)
    rw [HLT.out] at h
    exact h
  clear hJ
  obtain ⟨n, HN⟩ : ∃ n, Hid (rs.length = n) := ⟨_, rfl⟩
  rw [HN.out] at hle hk h20 ⊢
  obtain ⟨W, HW⟩ : ∃ W, Hid ((w.alloc (.cells #[.slice A n cap, .int .i64 s] 29)).alloc (.cells #[.slice none 0 0, .int .i64 0] 29) = W) := ⟨_, rfl⟩
  have KJ : Hid (Blk W w.heap.size 29 #[.slice A n cap, .int .i64 s]) := by rw [← HW.out]; exact (Blk.new w _ _).alloc _
  have KZ : Hid (Blk W (w.heap.size + 1) 29 #[.slice none 0 0, .int .i64 0]) := by
    rw [← HW.out]
    have h := Blk.new (w.alloc (.cells #[.slice A n cap, .int .i64 s] 29)) 29 #[.slice none 0 0, .int .i64 0]
    rw [World.size_alloc] at h
    exact h
  have HB : Hid (Below w.heap.size w W) := by rw [← HW.out]; exact ((Below.refl _ w).alloc (Nat.le_refl _) _).alloc (by simp) _
  obtain ⟨j0, j1⟩ := jr_cells KJ.out
  have k0 : (0 : Int) ≤ (k : Int) := by omega
  have k1 : (k : Int) ≤ (cap : Int) := by omega
  have k2 : (k : Int) ≤ (n : Int) := by omega
  clear hk
  go_enter Try.func45, Try.ntmps45
  go_upto_region 1 with fail
  rw [HW.out]
  go_wp2_with fail
  refine (CQ.out _ HB.out).mono ?_
  rintro e w1 ⟨c, rfl, hch, hcB, hb1⟩
  have KZ1 := Lib.hid (KZ.out.below hb1 KZ.out.lt)
  have KJ1 := Lib.hid (KJ.out.below hb1 KJ.out.lt)
  have HB1 : Hid (Below w.heap.size w w1) := HB.out.trans (hb1.mono HB.out.size)
  have hz : w.heap.size + 1 < c := by have := KZ.out.lt; omega
  have CD := Lib.hid (drain_any c (rs.take k) w1 hch (by rw [HLT.out]; omega))
  clear hb1 hch j0 j1 hcB
  go_wp2_with fail
  refine CD.out.mono ?_
  rintro e w2 ⟨X, x, rfl, ho2, hg2⟩
  rw [HLT.out]
  have KZ2 := Lib.hid (KZ1.out.grown hg2 (fun e => by injection e with e; omega))
  have HB2 : Hid (Below w.heap.size w w2) := HB1.out.grown hg2 HB1.out.size (fun i hi => by injection hi with hi; omega)
  have HO2 : Hid (OwnRow RK w2 w.heap.size X x (rs.take k)) := ho2.base_le HB1.out.size
  clear ho2 hg2 CD
  obtain ⟨z0, z1⟩ := jr_cells KZ2.out
  have zf := blk_frozen KZ2.out
  go_wp2
  obtain ⟨Y, HY⟩ : ∃ Y, Hid ((w2.setCell ⟨w.heap.size + 1, 0, none⟩ (.slice X k x)).setCell ⟨w.heap.size + 1, 1, none⟩ (.int .i64 (k : Int)) = Y) := ⟨_, rfl⟩
  have HBY : Hid (Below w.heap.size w Y) := by rw [← HY.out]; exact below_two HB2.out (by omega) _ _
  have KY : Hid (Blk Y (w.heap.size + 1) 29 #[.slice X k x, .int .i64 (k : Int)]) := by rw [← HY.out]; exact blk_two KZ2.out _ _
  have HOY : Hid (OwnRow RK Y w.heap.size X x (rs.take k)) := by rw [← HY.out]; exact rown_two HO2.out KZ2.out _ _
  rw [HY.out]
  obtain ⟨y0, y1⟩ := jr_cells KY.out
  exact bodyPost_ret (v := journalV X k x (k : Int)) (by simp [results, Try.results45, go_sem, y0, y1]) rfl ⟨X, x, by rw [HLT.out], HOY.out, HFIT.out, HBY.out⟩

set_option maxHeartbeats 4000000 in
set_option maxRecDepth 100000 in
theorem jsync_any (A : Option Addr) (cap : Nat) (s : Int) (rs : List RD) (w : World) (hJ : JAt w w.heap.size A cap rs) :
    Calls Try.prog 20 #[journalV A rs.length cap s] w (RetJ w (syncR rs s) (syncS rs s)) := by
  have HJ := Lib.hid hJ
  have CV : Hid (∀ U, Below w.heap.size w U → Calls Try.prog 11 #[journalV A rs.length cap s] U fun e w' => e = .returned (.bool (jokB rs s)) ∧ Below U.heap.size U w') := fun U hU => jvalid_any A cap s rs U (hJ.belowS hU)
  have CF : Hid (jokB rs s = true → ∀ U, Below w.heap.size w U → Calls Try.prog 45 #[journalV A rs.length cap s, .int .i64 (rs.length : Int)] U (RetJ U rs rs.length)) := fun hO U hU => by
    have h := withFirst_any A cap s rs rs.length U (hJ.belowS hU) (Nat.le_refl _) ((jokB_iff _ _).1 hO).1
    rw [List.take_length] at h
    exact h
  clear hJ
  obtain ⟨n, HN⟩ : ∃ n, Hid (rs.length = n) := ⟨_, rfl⟩
  rw [HN.out] at CV CF ⊢
  obtain ⟨W, HW⟩ : ∃ W, Hid ((w.alloc (.cells #[.slice A n cap, .int .i64 s] 29)).alloc (.cells #[.slice none 0 0, .int .i64 0] 29) = W) := ⟨_, rfl⟩
  have KJ : Hid (Blk W w.heap.size 29 #[.slice A n cap, .int .i64 s]) := by rw [← HW.out]; exact (Blk.new w _ _).alloc _
  have KZ : Hid (Blk W (w.heap.size + 1) 29 #[.slice none 0 0, .int .i64 0]) := by
    rw [← HW.out]
    have h := Blk.new (w.alloc (.cells #[.slice A n cap, .int .i64 s] 29)) 29 #[.slice none 0 0, .int .i64 0]
    rw [World.size_alloc] at h
    exact h
  have HB : Hid (Below w.heap.size w W) := by rw [← HW.out]; exact ((Below.refl _ w).alloc (Nat.le_refl _) _).alloc (by simp) _
  cases hO : jokB rs s with
  | false =>
    have HR : Hid (syncR rs s = []) := by show _ = _; unfold syncR; rw [hO]; rfl
    have HS : Hid (syncS rs s = 0) := by show _ = _; unfold syncS; rw [hO]; rfl
    rw [hO] at CV
    rw [HR.out, HS.out]
    clear CF hO
    go_enter Try.func20, Try.ntmps20
    go_wp2_with fail
    rw [HW.out]
    refine (CV.out _ HB.out).mono ?_
    rintro e w1 ⟨rfl, hb1⟩
    have KZ1 := Lib.hid (KZ.out.below hb1 KZ.out.lt)
    have HB1 : Hid (Below w.heap.size w w1) := HB.out.trans (hb1.mono HB.out.size)
    clear hb1
    obtain ⟨z0, z1⟩ := jr_cells KZ1.out
    have zf := blk_frozen KZ1.out
    go_wp2
    obtain ⟨Y, HY⟩ : ∃ Y, Hid ((w1.setCell ⟨w.heap.size + 1, 0, none⟩ (.slice none 0 0)).setCell ⟨w.heap.size + 1, 1, none⟩ (.int .i64 0) = Y) := ⟨_, rfl⟩
    have HBY : Hid (Below w.heap.size w Y) := by rw [← HY.out]; exact below_two HB1.out (by omega) _ _
    have KY : Hid (Blk Y (w.heap.size + 1) 29 #[.slice none 0 0, .int .i64 0]) := by rw [← HY.out]; exact blk_two KZ1.out _ _
    rw [HY.out]
    obtain ⟨y0, y1⟩ := jr_cells KY.out
    exact bodyPost_ret (v := journalV none 0 0 0) (by simp [results, Try.results20, go_sem, y0, y1]) rfl ⟨none, 0, rfl, OwnRow.zero RK _ _, FitR.of (fun _ h => by cases h), HBY.out⟩
  | true =>
    have HR : Hid (syncR rs s = rs) := by show _ = _; unfold syncR; rw [hO]; rfl
    have HS : Hid (syncS rs s = n) := by show _ = _; unfold syncS; rw [hO, HN.out]; rfl
    have CF2 := Lib.hid (CF.out hO)
    rw [hO] at CV
    rw [HR.out, HS.out]
    clear CF hO
    go_enter Try.func20, Try.ntmps20
    go_wp2_with fail
    rw [HW.out]
    refine (CV.out _ HB.out).mono ?_
    rintro e w1 ⟨rfl, hb1⟩
    have KZ1 := Lib.hid (KZ.out.below hb1 KZ.out.lt)
    have KJ1 := Lib.hid (KJ.out.below hb1 KJ.out.lt)
    have HB1 : Hid (Below w.heap.size w w1) := HB.out.trans (hb1.mono HB.out.size)
    clear hb1
    obtain ⟨j0, j1⟩ := jr_cells KJ1.out
    go_wp2_with fail
    refine (CF2.out _ HB1.out).mono ?_
    rintro e w2 ⟨X, x, rfl, ho2, hf2, hb2⟩
    rw [HN.out]
    have KZ2 := Lib.hid (KZ1.out.below hb2 KZ1.out.lt)
    have HB2 : Hid (Below w.heap.size w w2) := HB1.out.trans (hb2.mono HB1.out.size)
    have HO2 : Hid (OwnRow RK w2 w.heap.size X x rs) := ho2.base_le HB1.out.size
    have HF2 := Lib.hid hf2
    clear hb2 ho2 hf2 j0 j1
    obtain ⟨z0, z1⟩ := jr_cells KZ2.out
    have zf := blk_frozen KZ2.out
    go_wp2
    obtain ⟨Y, HY⟩ : ∃ Y, Hid ((w2.setCell ⟨w.heap.size + 1, 0, none⟩ (.slice X n x)).setCell ⟨w.heap.size + 1, 1, none⟩ (.int .i64 (n : Int)) = Y) := ⟨_, rfl⟩
    have HBY : Hid (Below w.heap.size w Y) := by rw [← HY.out]; exact below_two HB2.out (by omega) _ _
    have KY : Hid (Blk Y (w.heap.size + 1) 29 #[.slice X n x, .int .i64 (n : Int)]) := by rw [← HY.out]; exact blk_two KZ2.out _ _
    have HOY : Hid (OwnRow RK Y w.heap.size X x rs) := by rw [← HY.out]; exact rown_two HO2.out KZ2.out _ _
    rw [HY.out]
    obtain ⟨y0, y1⟩ := jr_cells KY.out
    exact bodyPost_ret (v := journalV X n x (n : Int)) (by simp [results, Try.results20, go_sem, y0, y1]) rfl ⟨X, x, by rw [HN.out], HOY.out, HF2.out, HBY.out⟩

end Go.Proofs.Ytmddfjfflgfdlaa
