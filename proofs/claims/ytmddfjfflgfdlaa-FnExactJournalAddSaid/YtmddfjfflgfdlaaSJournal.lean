/- Contracts of the model of the journals: l13Record, JournalValid, l13Copy, JournalAdd, JournalSync, JournalCrash. Conditions: the journal and the record lie in memory. -/
import Derived.Test.YtmddfjfflgfdlaaJournal2
namespace Go.Proofs.Ytmddfjfflgfdlaa
open Go.RowKit Go.Conc
set_option linter.unusedVariables false

set_option maxHeartbeats 1000000 in
theorem srecord_any (r : RD) (w : World) (hm : r.t.size ≤ maxLen) :
    Calls Try.prog 32 #[recV r] w fun e w' => e = .returned (.bool (recB r)) ∧ Below w.heap.size w w' := by
  obtain ⟨i, t⟩ := r
  unfold maxLen at hm
  have HR : Hid (recB ⟨i, t⟩ = decide (0 ≤ i ∧ i < 16 ∧ t.size ≤ 8)) := rfl
  by_cases h0 : 0 ≤ i ∧ i ≤ 15
  · by_cases h2 : t.size ≤ 8
    · have h2i : (t.size : Int) ≤ 8 := by omega
      have C : Hid (∀ U, Calls Try.prog 33 #[.int .i64 i, .int .i64 0, .int .i64 15] U fun e w' => e = .returned (.bool true) ∧ U = w') := fun U => in_yes i 0 15 U h0.1 h0.2
      go_enter Try.func32, Try.ntmps32
      go_wp2_with (go_at_call 33; refine (C.out _).mono ?_; rintro e w' ⟨rfl, rfl⟩)
      go_ret
      exact ⟨ret_bool (by rw [HR.out, decide_eq_true ⟨by omega, by omega, h2⟩]), (Below.refl _ _).alloc (Nat.le_refl _) _⟩
    · have h2i : ¬ (t.size : Int) ≤ 8 := by omega
      have C : Hid (∀ U, Calls Try.prog 33 #[.int .i64 i, .int .i64 0, .int .i64 15] U fun e w' => e = .returned (.bool true) ∧ U = w') := fun U => in_yes i 0 15 U h0.1 h0.2
      go_enter Try.func32, Try.ntmps32
      go_wp2_with (go_at_call 33; refine (C.out _).mono ?_; rintro e w' ⟨rfl, rfl⟩)
      go_ret
      exact ⟨ret_bool (by rw [HR.out, decide_eq_false (show ¬ (t.size : Int) ≤ 8 by omega), decide_eq_false (show ¬ (0 ≤ i ∧ i < 16 ∧ t.size ≤ 8) from fun k => h2 k.2.2)]), (Below.refl _ _).alloc (Nat.le_refl _) _⟩
  · have C : Hid (∀ U, Calls Try.prog 33 #[.int .i64 i, .int .i64 0, .int .i64 15] U fun e w' => e = .returned (.bool false) ∧ U = w') := fun U => in_no i 0 15 U (by omega)
    have HN : Hid (¬ (0 ≤ i ∧ i ≤ 15)) := h0
    clear h0
    go_enter Try.func32, Try.ntmps32
    go_wp2_with (go_at_call 33; refine (C.out _).mono ?_; rintro e w' ⟨rfl, rfl⟩)
    go_ret
    exact ⟨ret_bool (by rw [HR.out, decide_eq_false (show ¬ (0 ≤ i ∧ i < 16 ∧ t.size ≤ 8) from fun k => HN.out ⟨k.1, by have := k.2.1; omega⟩)]), (Below.refl _ _).alloc (Nat.le_refl _) _⟩

set_option maxHeartbeats 2000000 in
set_option maxRecDepth 100000 in
theorem sjvalid_any (A : Option Addr) (cap : Nat) (s : Int) (rs : List RD) (w : World) (hJ : JAt w w.heap.size A cap rs) :
    Calls Try.prog 9 #[journalV A rs.length cap s] w fun e w' => e = .returned (.bool (jokB rs s)) ∧ Below w.heap.size w w' := by
  have HJ := Lib.hid hJ
  have HN0 : Hid (jokB rs s = (decide (rs.length ≤ 20) && (decide (0 ≤ s) && (decide (s ≤ rs.length) && allB rs)))) := rfl
  have hmx := hJ.most
  have hle := hJ.le
  unfold maxLen at hmx
  clear hJ
  obtain ⟨n, HN⟩ : ∃ n, Hid (rs.length = n) := ⟨_, rfl⟩
  rw [HN.out] at HN0 hle ⊢
  obtain ⟨W, HW⟩ : ∃ W, Hid (w.alloc (.cells #[.slice A n cap, .int .i64 s] 29) = W) := ⟨_, rfl⟩
  have KJ : Hid (Blk W w.heap.size 29 #[.slice A n cap, .int .i64 s]) := by rw [← HW.out]; exact Blk.new w _ _
  have HB : Hid (Below w.heap.size w W) := by rw [← HW.out]; exact (Below.refl _ w).alloc (Nat.le_refl _) _
  go_enter Try.func9, Try.ntmps9
  go_wp2
  rw [HW.out]
  go_loopw [3] (fun i w' => ∃ k : Nat, k ≤ n ∧ i = .int .i64 k ∧ Hid (Below w.heap.size w w') ∧ Hid (Blk w' w.heap.size 29 #[.slice A n cap, .int .i64 s]) ∧ Hid (∀ j, j < k → recB (rth rs j) = true)) (fun i _ => n - (intOf i).toNat)
  case atStart => exact ⟨0, Nat.zero_le _, rfl, HB, KJ, fun j hj => absurd hj (Nat.not_lt_zero _)⟩
  case round =>
    obtain ⟨k, hk, rfl, HBr, KJr, HA⟩ := hrel
    obtain ⟨j0, j1⟩ := jr_cells KJr.out
    by_cases hlt : k < n
    · have hkz : k < rs.length := by rw [HN.out]; exact hlt
      have hj := HJ.out.belowS HBr.out
      obtain ⟨b, o, rfl⟩ := hj.row.some_ (by omega)
      obtain ⟨c0, c1⟩ := rec_cells hj.row k hkz
      have HM := Lib.hid (HJ.out.fit k)
      obtain ⟨ri, HRI⟩ : ∃ x, Hid ((rth rs k).i = x) := ⟨_, rfl⟩
      obtain ⟨rt, HRT⟩ : ∃ x, Hid ((rth rs k).t = x) := ⟨_, rfl⟩
      have HONE : Hid (rth rs k = ⟨ri, rt⟩) := by
        show _ = _
        rw [← HRI.out, ← HRT.out]
      rw [HRI.out] at c0
      rw [HRT.out] at c1 HM
      have hki : (k : Int) < (n : Int) := by omega
      clear hkz hj
      have C : Hid (Calls Try.prog 32 #[.agg #[.int .i64 ri, .string rt]] wr fun e w' => e = .returned (.bool (recB ⟨ri, rt⟩)) ∧ Below wr.heap.size wr w') := srecord_any ⟨ri, rt⟩ wr HM.out
      cases hq : recB ⟨ri, rt⟩ with
      | true =>
        rw [hq] at C
        go_wp2_with fail
        refine C.out.mono ?_
        rintro e w2 ⟨rfl, hb2⟩
        have HB2 : Hid (Below w.heap.size w w2) := HBr.out.trans (hb2.mono HBr.out.size)
        have KJ2 := Lib.hid (KJr.out.below hb2 KJr.out.lt)
        have HA2 : Hid (∀ j, j < k + 1 → recB (rth rs j) = true) := fun j hj => by
          by_cases e : j = k
          · subst e; rw [HONE.out]; exact hq
          · exact HA.out j (by omega)
        clear hb2 hq
        go_wp2
        go_roundw
        case rel => exact ⟨k + 1, by omega, by go_num, HB2, KJ2, HA2⟩
        case measure => simp [intOf]; omega
      | false =>
        rw [hq] at C
        have HNO : Hid (allB rs = false) := allB_no (k := k) (by rw [HN.out]; exact hlt) (by rw [HONE.out]; exact hq)
        clear hq
        go_wp2_with fail
        refine C.out.mono ?_
        rintro e w2 ⟨rfl, hb2⟩
        have HB2 : Hid (Below w.heap.size w w2) := HBr.out.trans (hb2.mono HBr.out.size)
        clear hb2
        go_wp2
        go_ret
        exact ⟨ret_bool (by rw [HN0.out, HNO.out]; simp), HB2.out⟩
    · have hkn : k = n := by omega
      subst hkn
      have HYES : Hid (allB rs = true) := (allB_iff rs).2 fun j hj => HA.out j (by rw [HN.out] at hj; exact hj)
      by_cases h1 : k ≤ 20
      · have h1i : (k : Int) ≤ 20 := by omega
        by_cases h2 : 0 ≤ s ∧ s ≤ k
        · have C : Hid (∀ U, Calls Try.prog 33 #[.int .i64 s, .int .i64 0, .int .i64 (k : Int)] U fun e w' => e = .returned (.bool true) ∧ U = w') := fun U => in_yes s 0 k U h2.1 h2.2
          have HF : Hid (jokB rs s = true) := by
            show _ = _
            rw [HN0.out, HYES.out, decide_eq_true h1, decide_eq_true h2.1, decide_eq_true h2.2]; rfl
          go_wp2_with (go_at_call 33; refine (C.out _).mono ?_; rintro e w' ⟨rfl, rfl⟩)
          go_ret
          exact ⟨ret_bool (by rw [HF.out]), HBr.out⟩
        · have C : Hid (∀ U, Calls Try.prog 33 #[.int .i64 s, .int .i64 0, .int .i64 (k : Int)] U fun e w' => e = .returned (.bool false) ∧ U = w') := fun U => in_no s 0 k U h2
          have HF : Hid (jokB rs s = false) := jokB_no fun h => h2 ⟨h.2.1, by have := h.2.2.1; rw [HN.out] at this; exact this⟩
          clear h2
          go_wp2_with (go_at_call 33; refine (C.out _).mono ?_; rintro e w' ⟨rfl, rfl⟩)
          go_ret
          exact ⟨ret_bool (by rw [HF.out]), HBr.out⟩
      · have h1i : ¬ (k : Int) ≤ 20 := by omega
        have HF : Hid (jokB rs s = false) := jokB_no fun h => h1 (by have := h.1; rw [HN.out] at this; exact this)
        go_wp2
        go_ret
        exact ⟨ret_bool (by rw [HF.out]), HBr.out⟩

set_option maxHeartbeats 4000000 in
set_option maxRecDepth 100000 in
theorem sjcopy_any (A : Option Addr) (cap : Nat) (s : Int) (rs : List RD) (w : World) (hJ : JAt w w.heap.size A cap rs) (hm : rs.length ≤ 1000000) :
    Calls Try.prog 39 #[journalV A rs.length cap s] w (RetJ w rs s) := by
  have HJ := Lib.hid hJ
  have HFT := Lib.hid hJ.fit
  have hnil := hJ.nil0
  clear hJ
  obtain ⟨i0, zz, hi0, hz0, hz1, hz2, hz3⟩ := app_info
  have HI0 := Lib.hid (And.intro hi0 (And.intro hz0 (And.intro hz1 (And.intro hz2 hz3))))
  clear hi0 hz0 hz1 hz2 hz3
  obtain ⟨n, HN⟩ : ∃ n, Hid (rs.length = n) := ⟨_, rfl⟩
  rw [HN.out] at hm ⊢
  obtain ⟨W, HW⟩ : ∃ W, Hid ((w.alloc (.cells #[.slice A n cap, .int .i64 s] 29)).alloc (.cells #[.slice none 0 0, .int .i64 0] 29) = W) := ⟨_, rfl⟩
  have KJ : Hid (Blk W w.heap.size 29 #[.slice A n cap, .int .i64 s]) := by rw [← HW.out]; exact (Blk.new w _ _).alloc _
  have KZ : Hid (Blk W (w.heap.size + 1) 29 #[.slice none 0 0, .int .i64 0]) := by
    rw [← HW.out]
    have h := Blk.new (w.alloc (.cells #[.slice A n cap, .int .i64 s] 29)) 29 #[.slice none 0 0, .int .i64 0]
    rw [World.size_alloc] at h
    exact h
  have HB : Hid (Below w.heap.size w W) := by rw [← HW.out]; exact ((Below.refl _ w).alloc (Nat.le_refl _) _).alloc (by simp) _
  have HROW : Hid (RowAt RK (W.alloc (.cells #[] 38)) (W.alloc (.cells #[] 38)).heap.size A rs) := ((HJ.out.belowS HB.out).allocS _).row
  have HNEW : Hid (OwnRow RK (W.alloc (.cells #[] 38)) W.heap.size (some ⟨W.heap.size, 0, none⟩) 0 []) := OwnRow.new RK W
  obtain ⟨j0, j1⟩ := jr_cells KJ.out
  go_enter Try.func39, Try.ntmps39
  go_upto_region 1 with fail
  rw [HW.out]
  have hWz : w.heap.size + 1 < W.heap.size := KZ.out.lt
  have hWz1 : w.heap.size < W.heap.size := KJ.out.lt
  go_upto_region 2 with (at_builtin; refine wpList_app_row (K := RK) Try.underlying27 HI0.out.1 HI0.out.2.1 HI0.out.2.2.1 HI0.out.2.2.2.1 HI0.out.2.2.2.2 (by decide) rfl (.tmp 3) (.tmp 5) rfl _ W.heap.size (some ⟨W.heap.size, 0, none⟩) 0 [] rfl A cap rs (by rw [HN.out]; rfl) HNEW.out HROW.out (by rw [HN.out]; simp; omega) (by simp) hnil ?_; intro v w2 hA; obtain ⟨X, x, rfl, ho2⟩ := hA.own; have hbel := hA.below; have KJ2 : Hid (Blk w2 w.heap.size 29 #[.slice A n cap, .int .i64 s]) := (KJ.out.alloc _).below hbel (by omega); have KZ2 : Hid (Blk w2 (w.heap.size + 1) 29 #[.slice none 0 0, .int .i64 0]) := (KZ.out.alloc _).below hbel (by omega); have HB2 : Hid (Below w.heap.size w w2) := (HB.out.alloc HB.out.size _).trans (hbel.mono (by omega)); rw [List.nil_append, HN.out]; rw [List.nil_append] at ho2; have HO2 : Hid (OwnRow RK w2 w.heap.size X x rs) := ho2.base_le (by omega); clear hA ho2 hbel j0 j1; obtain ⟨j0, j1⟩ := jr_cells KJ2.out; have jf := blk_frozen KJ2.out)
  obtain ⟨wV, HV⟩ : ∃ Q0, Hid (w2.setCell ⟨w.heap.size, 0, none⟩ (.slice X n x) = Q0) := ⟨_, rfl⟩
  have KJV : Hid (Blk wV w.heap.size 29 #[.slice X n x, .int .i64 s]) := by rw [← HV.out]; exact KJ2.setOwn 0 _
  have KZV : Hid (Blk wV (w.heap.size + 1) 29 #[.slice none 0 0, .int .i64 0]) := by rw [← HV.out]; exact KZ2.setOther (p := ⟨w.heap.size, 0, none⟩) (by show w.heap.size ≠ _; omega) _
  have HBV : Hid (Below w.heap.size w wV) := by rw [← HV.out]; exact HB2.setCell (p := ⟨w.heap.size, 0, none⟩) (Nat.le_refl _) _
  have HOV : Hid (OwnRow RK wV w.heap.size X x rs) := by
    rw [← HV.out]
    exact rown_block HO2.out fun y hy => Below.heap_setCell _ ⟨w.heap.size, 0, none⟩ _ y (own_ne_blk HO2.out KJ2 (by decide) y hy)
  rw [HV.out]
  clear KJ2 KZ2 HB2 jf j0 j1
  obtain ⟨j0, j1⟩ := jr_cells KJV.out
  obtain ⟨z0, z1⟩ := jr_cells KZV.out
  have zf := blk_frozen KZV.out
  go_wp2
  obtain ⟨Y, HY⟩ : ∃ Y, Hid ((wV.setCell ⟨w.heap.size + 1, 0, none⟩ (.slice X n x)).setCell ⟨w.heap.size + 1, 1, none⟩ (.int .i64 s) = Y) := ⟨_, rfl⟩
  have HBY : Hid (Below w.heap.size w Y) := by rw [← HY.out]; exact below_two HBV.out (by omega) _ _
  have KY : Hid (Blk Y (w.heap.size + 1) 29 #[.slice X n x, .int .i64 s]) := by rw [← HY.out]; exact blk_two KZV.out _ _
  have HOY : Hid (OwnRow RK Y w.heap.size X x rs) := by rw [← HY.out]; exact rown_two HOV.out KZV.out _ _
  rw [HY.out]
  obtain ⟨y0, y1⟩ := jr_cells KY.out
  exact bodyPost_ret (v := journalV X n x s) (by simp [results, Try.results39, go_sem, y0, y1]) rfl ⟨X, x, by rw [HN.out], HOY.out, HFT.out, HBY.out⟩

set_option maxHeartbeats 4000000 in
set_option maxRecDepth 100000 in
theorem sjsync_any (A : Option Addr) (cap : Nat) (s : Int) (rs : List RD) (w : World) (hJ : JAt w w.heap.size A cap rs) :
    Calls Try.prog 19 #[journalV A rs.length cap s] w (RetJ w (syncR rs s) (syncS rs s)) := by
  have HJ := Lib.hid hJ
  have CV : Hid (∀ U, Below w.heap.size w U → Calls Try.prog 9 #[journalV A rs.length cap s] U fun e w' => e = .returned (.bool (jokB rs s)) ∧ Below U.heap.size U w') := fun U hU => sjvalid_any A cap s rs U (hJ.belowS hU)
  have CC : Hid (jokB rs s = true → ∀ U, Below w.heap.size w U → Calls Try.prog 39 #[journalV A rs.length cap s] U (RetJ U rs s)) := fun hO U hU => sjcopy_any A cap s rs U (hJ.belowS hU) (by have := ((jokB_iff _ _).1 hO).1; omega)
  clear hJ
  obtain ⟨n, HN⟩ : ∃ n, Hid (rs.length = n) := ⟨_, rfl⟩
  rw [HN.out] at CV CC ⊢
  obtain ⟨W, HW⟩ : ∃ W, Hid ((w.alloc (.cells #[.slice A n cap, .int .i64 s] 29)).alloc (.cells #[.slice none 0 0, .int .i64 0] 29) = W) := ⟨_, rfl⟩
  have KJ : Hid (Blk W w.heap.size 29 #[.slice A n cap, .int .i64 s]) := by rw [← HW.out]; exact (Blk.new w _ _).alloc _
  have KZ : Hid (Blk W (w.heap.size + 1) 29 #[.slice none 0 0, .int .i64 0]) := by
    rw [← HW.out]
    have h := Blk.new (w.alloc (.cells #[.slice A n cap, .int .i64 s] 29)) 29 #[.slice none 0 0, .int .i64 0]
    rw [World.size_alloc] at h
    exact h
  have HB : Hid (Below w.heap.size w W) := by rw [← HW.out]; exact ((Below.refl _ w).alloc (Nat.le_refl _) _).alloc (by simp) _
  cases hO : jokB rs s with
  | false =>
    have HR : Hid (syncR rs s = []) := by show _ = _; unfold syncR; rw [hO]; rfl
    have HS : Hid (syncS rs s = 0) := by show _ = _; unfold syncS; rw [hO]; rfl
    rw [hO] at CV
    rw [HR.out, HS.out]
    clear CC hO
    go_enter Try.func19, Try.ntmps19
    go_wp2_with fail
    rw [HW.out]
    refine (CV.out _ HB.out).mono ?_
    rintro e w1 ⟨rfl, hb1⟩
    have KZ1 := Lib.hid (KZ.out.below hb1 KZ.out.lt)
    have HB1 : Hid (Below w.heap.size w w1) := HB.out.trans (hb1.mono HB.out.size)
    clear hb1
    obtain ⟨z0, z1⟩ := jr_cells KZ1.out
    have zf := blk_frozen KZ1.out
    go_wp2
    obtain ⟨Y, HY⟩ : ∃ Y, Hid ((w1.setCell ⟨w.heap.size + 1, 0, none⟩ (.slice none 0 0)).setCell ⟨w.heap.size + 1, 1, none⟩ (.int .i64 0) = Y) := ⟨_, rfl⟩
    have HBY : Hid (Below w.heap.size w Y) := by rw [← HY.out]; exact below_two HB1.out (by omega) _ _
    have KY : Hid (Blk Y (w.heap.size + 1) 29 #[.slice none 0 0, .int .i64 0]) := by rw [← HY.out]; exact blk_two KZ1.out _ _
    rw [HY.out]
    obtain ⟨y0, y1⟩ := jr_cells KY.out
    exact bodyPost_ret (v := journalV none 0 0 0) (by simp [results, Try.results19, go_sem, y0, y1]) rfl ⟨none, 0, rfl, OwnRow.zero RK _ _, FitR.of (fun _ h => by cases h), HBY.out⟩
  | true =>
    have HR : Hid (syncR rs s = rs) := by show _ = _; unfold syncR; rw [hO]; rfl
    have HS : Hid (syncS rs s = n) := by show _ = _; unfold syncS; rw [hO, HN.out]; rfl
    have CC2 := Lib.hid (CC.out hO)
    rw [hO] at CV
    rw [HR.out, HS.out]
    clear CC hO
    go_enter Try.func19, Try.ntmps19
    go_wp2_with fail
    rw [HW.out]
    refine (CV.out _ HB.out).mono ?_
    rintro e w1 ⟨rfl, hb1⟩
    have KZ1 := Lib.hid (KZ.out.below hb1 KZ.out.lt)
    have KJ1 := Lib.hid (KJ.out.below hb1 KJ.out.lt)
    have HB1 : Hid (Below w.heap.size w w1) := HB.out.trans (hb1.mono HB.out.size)
    clear hb1
    obtain ⟨j0, j1⟩ := jr_cells KJ1.out
    go_wp2_with fail
    refine (CC2.out _ HB1.out).mono ?_
    rintro e w2 ⟨X, x, rfl, ho2, hf2, hb2⟩
    rw [HN.out]
    have KZ2 := Lib.hid (KZ1.out.below hb2 KZ1.out.lt)
    have HB2 : Hid (Below w.heap.size w w2) := HB1.out.trans (hb2.mono HB1.out.size)
    have HO2 : Hid (OwnRow RK w2 w.heap.size X x rs) := ho2.base_le HB1.out.size
    have HF2 := Lib.hid hf2
    have hz2 : w.heap.size + 1 < w2.heap.size := KZ2.out.lt
    clear hb2 ho2 hf2 j0 j1
    go_upto_region 5 with fail
    obtain ⟨w3, HW3⟩ : ∃ Q0, Hid (w2.alloc (.cells #[.slice X n x, .int .i64 (n : Int)] 29) = Q0) := ⟨_, rfl⟩
    have KO3 : Hid (Blk w3 w2.heap.size 29 #[.slice X n x, .int .i64 (n : Int)]) := by rw [← HW3.out]; exact Blk.new w2 29 _
    have KZ3 : Hid (Blk w3 (w.heap.size + 1) 29 #[.slice none 0 0, .int .i64 0]) := by rw [← HW3.out]; exact KZ2.out.alloc _
    have HB3 : Hid (Below w.heap.size w w3) := by rw [← HW3.out]; exact HB2.out.alloc HB2.out.size _
    have HO3 : Hid (OwnRow RK w3 w.heap.size X x rs) := by rw [← HW3.out]; exact HO2.out.alloc _
    rw [HW3.out]
    obtain ⟨o0, o1⟩ := jr_cells KO3.out
    obtain ⟨z0, z1⟩ := jr_cells KZ3.out
    have zf := blk_frozen KZ3.out
    go_wp2
    obtain ⟨Y, HY⟩ : ∃ Y, Hid ((w3.setCell ⟨w.heap.size + 1, 0, none⟩ (.slice X n x)).setCell ⟨w.heap.size + 1, 1, none⟩ (.int .i64 (n : Int)) = Y) := ⟨_, rfl⟩
    have HBY : Hid (Below w.heap.size w Y) := by rw [← HY.out]; exact below_two HB3.out (by omega) _ _
    have KY : Hid (Blk Y (w.heap.size + 1) 29 #[.slice X n x, .int .i64 (n : Int)]) := by rw [← HY.out]; exact blk_two KZ3.out _ _
    have HOY : Hid (OwnRow RK Y w.heap.size X x rs) := by rw [← HY.out]; exact rown_two HO3.out KZ3.out _ _
    rw [HY.out]
    obtain ⟨y0, y1⟩ := jr_cells KY.out
    exact bodyPost_ret (v := journalV X n x (n : Int)) (by simp [results, Try.results19, go_sem, y0, y1]) rfl ⟨X, x, by rw [HN.out], HOY.out, HF2.out, HBY.out⟩

set_option maxHeartbeats 4000000 in
set_option maxRecDepth 100000 in
theorem sjcrash_any (A : Option Addr) (cap : Nat) (s keep : Int) (rs : List RD) (w : World) (hJ : JAt w w.heap.size A cap rs) :
    Calls Try.prog 21 #[journalV A rs.length cap s, .int .i64 keep] w (RetJ w (crashR rs s keep) (crashS rs s keep)) := by
  have HJ := Lib.hid hJ
  have CV : Hid (∀ U, Below w.heap.size w U → Calls Try.prog 9 #[journalV A rs.length cap s] U fun e w' => e = .returned (.bool (jokB rs s)) ∧ Below U.heap.size U w') := fun U hU => sjvalid_any A cap s rs U (hJ.belowS hU)
  have CC : Hid (jokB rs s = true → ∀ U, Below w.heap.size w U → Calls Try.prog 39 #[journalV A rs.length cap s] U (RetJ U rs s)) := fun hO U hU => sjcopy_any A cap s rs U (hJ.belowS hU) (by have := ((jokB_iff _ _).1 hO).1; omega)
  have hnil := hJ.nil0
  have hle := hJ.le
  clear hJ
  obtain ⟨i0, zz, hi0, hz0, hz1, hz2, hz3⟩ := app_info
  have HI0 := Lib.hid (And.intro hi0 (And.intro hz0 (And.intro hz1 (And.intro hz2 hz3))))
  clear hi0 hz0 hz1 hz2 hz3
  obtain ⟨n, HN⟩ : ∃ n, Hid (rs.length = n) := ⟨_, rfl⟩
  rw [HN.out] at CV CC ⊢
  rw [HN.out] at hle
  clear CC
  obtain ⟨W, HW⟩ : ∃ W, Hid ((w.alloc (.cells #[.slice A n cap, .int .i64 s] 29)).alloc (.cells #[.slice none 0 0, .int .i64 0] 29) = W) := ⟨_, rfl⟩
  have KJ : Hid (Blk W w.heap.size 29 #[.slice A n cap, .int .i64 s]) := by rw [← HW.out]; exact (Blk.new w _ _).alloc _
  have KZ : Hid (Blk W (w.heap.size + 1) 29 #[.slice none 0 0, .int .i64 0]) := by
    rw [← HW.out]
    have h := Blk.new (w.alloc (.cells #[.slice A n cap, .int .i64 s] 29)) 29 #[.slice none 0 0, .int .i64 0]
    rw [World.size_alloc] at h
    exact h
  have HB : Hid (Below w.heap.size w W) := by rw [← HW.out]; exact ((Below.refl _ w).alloc (Nat.le_refl _) _).alloc (by simp) _
  cases hO : jokB rs s with
  | false =>
    have HR : Hid (crashR rs s keep = []) := by show _ = _; unfold crashR; rw [hO, if_neg (by simp)]
    have HS : Hid (crashS rs s keep = 0) := by show _ = _; unfold crashS; rw [hO, if_neg (by simp)]
    rw [hO] at CV
    rw [HR.out, HS.out]
    clear hO
    go_enter Try.func21, Try.ntmps21
    go_wp2_with fail
    rw [HW.out]
    refine (CV.out _ HB.out).mono ?_
    rintro e w1 ⟨rfl, hb1⟩
    have KZ1 := Lib.hid (KZ.out.below hb1 KZ.out.lt)
    have HB1 : Hid (Below w.heap.size w w1) := HB.out.trans (hb1.mono HB.out.size)
    clear hb1
    obtain ⟨z0, z1⟩ := jr_cells KZ1.out
    have zf := blk_frozen KZ1.out
    go_wp2
    obtain ⟨Y, HY⟩ : ∃ Y, Hid ((w1.setCell ⟨w.heap.size + 1, 0, none⟩ (.slice none 0 0)).setCell ⟨w.heap.size + 1, 1, none⟩ (.int .i64 0) = Y) := ⟨_, rfl⟩
    have HBY : Hid (Below w.heap.size w Y) := by rw [← HY.out]; exact below_two HB1.out (by omega) _ _
    have KY : Hid (Blk Y (w.heap.size + 1) 29 #[.slice none 0 0, .int .i64 0]) := by rw [← HY.out]; exact blk_two KZ1.out _ _
    rw [HY.out]
    obtain ⟨y0, y1⟩ := jr_cells KY.out
    exact bodyPost_ret (v := journalV none 0 0 0) (by simp [results, Try.results21, go_sem, y0, y1]) rfl ⟨none, 0, rfl, OwnRow.zero RK _ _, FitR.of (fun _ h => by cases h), HBY.out⟩
  | true =>
    obtain ⟨h20, hs0, hs1, -⟩ := (jokB_iff _ _).1 hO
    have hO' := Lib.hid hO
    rw [hO] at CV
    rw [HN.out] at h20 hs1
    clear hO
    by_cases hk : 0 ≤ keep
    · have hk1 : ¬ keep < 0 := by omega
      by_cases hmin : keep < (n : Int) - s
      · have hmm : ¬ 20 < keep := by omega
        have hm3 : s + keep < (n : Int) := by omega
        obtain ⟨k, hkk⟩ : ∃ k : Nat, s + keep = (k : Int) := ⟨(s + keep).toNat, by omega⟩
        have hkn : k ≤ n := by omega
        have HK : Hid (keepN rs s keep = k) := by
          show _ = _
          unfold keepN
          rw [HN.out]
          omega
        have HLT : Hid ((rs.take k).length = k) := by show _ = _; rw [List.length_take, HN.out]; omega
        have HFT : Hid (FitR (rs.take k)) := HJ.out.fit.take k
        have HR : Hid (crashR rs s keep = rs.take k) := by show _ = _; unfold crashR; rw [if_pos ⟨hO'.out, hk⟩, HK.out]
        have HS : Hid (crashS rs s keep = (k : Int)) := by show _ = _; unfold crashS; rw [if_pos ⟨hO'.out, hk⟩, HK.out]
        have hn20 : (n : Int) ≤ 20 := by omega
        have hs2 : s ≤ 20 := by omega
        rw [HR.out, HS.out]
        have HKK := Lib.hid hkk
        clear hkk
        go_enter Try.func21, Try.ntmps21
        go_wp2_with fail
        rw [HW.out]
        refine (CV.out _ HB.out).mono ?_
        rintro e w1 ⟨rfl, hb1⟩
        have KZ1 := Lib.hid (KZ.out.below hb1 KZ.out.lt)
        have KJ1 := Lib.hid (KJ.out.below hb1 KJ.out.lt)
        have HB1 : Hid (Below w.heap.size w w1) := HB.out.trans (hb1.mono HB.out.size)
        clear hb1
        obtain ⟨j0, j1⟩ := jr_cells KJ1.out
        go_upto_region 4 with fail
        obtain ⟨s5, h5⟩ : ∃ v : Int, v = s + keep := ⟨_, rfl⟩
        rw [← h5]
        have h5k : s5 = (k : Int) := h5.trans HKK.out
        subst h5k
        have hk0 : (0 : Int) ≤ (k : Int) := by omega
        have hkc : (k : Int) ≤ (cap : Int) := by omega
        clear h5
        have hz1 : w.heap.size < w1.heap.size := KJ1.out.lt
        have hz1a : w.heap.size + 1 < w1.heap.size := KZ1.out.lt
        have HROW : Hid (RowAt RK (w1.alloc (.cells #[] 38)) (w1.alloc (.cells #[] 38)).heap.size A (rs.take k)) := (((HJ.out.belowS HB1.out).allocS _).first k).row
        have HNEW : Hid (OwnRow RK (w1.alloc (.cells #[] 38)) w1.heap.size (some ⟨w1.heap.size, 0, none⟩) 0 []) := OwnRow.new RK w1
        go_wp2_with (at_builtin; refine wpList_app_row (K := RK) Try.underlying27 HI0.out.1 HI0.out.2.1 HI0.out.2.2.1 HI0.out.2.2.2.1 HI0.out.2.2.2.2 (by decide) rfl (.tmp 23) (.tmp 27) rfl _ w1.heap.size (some ⟨w1.heap.size, 0, none⟩) 0 [] rfl A cap (rs.take k) (by rw [HLT.out]; rfl) HNEW.out HROW.out (by rw [HLT.out]; simp; omega) (by simp) hnil ?_; intro v w2 hA; obtain ⟨X, x, rfl, ho2⟩ := hA.own; have hbel := hA.below; have KZ2 := Lib.hid ((KZ1.out.alloc (.cells #[] 38)).below hbel (by omega)); have HB2 : Hid (Below w.heap.size w w2) := (HB1.out.alloc HB1.out.size _).trans (hbel.mono (by omega)); rw [List.nil_append, HLT.out]; rw [List.nil_append] at ho2; have HO2 : Hid (OwnRow RK w2 w.heap.size X x (rs.take k)) := ho2.base_le (by omega); clear hA ho2 hbel j0 j1; obtain ⟨z0, z1⟩ := jr_cells KZ2.out; have zf := blk_frozen KZ2.out)
        obtain ⟨Y, HY⟩ : ∃ Y, Hid ((w2.setCell ⟨w.heap.size + 1, 0, none⟩ (.slice X k x)).setCell ⟨w.heap.size + 1, 1, none⟩ (.int .i64 (k : Int)) = Y) := ⟨_, rfl⟩
        have HBY : Hid (Below w.heap.size w Y) := by rw [← HY.out]; exact below_two HB2.out (by omega) _ _
        have KY : Hid (Blk Y (w.heap.size + 1) 29 #[.slice X k x, .int .i64 (k : Int)]) := by rw [← HY.out]; exact blk_two KZ2.out _ _
        have HOY : Hid (OwnRow RK Y w.heap.size X x (rs.take k)) := by rw [← HY.out]; exact rown_two HO2.out KZ2.out _ _
        rw [HY.out]
        obtain ⟨y0, y1⟩ := jr_cells KY.out
        exact bodyPost_ret (v := journalV X k x (k : Int)) (by simp [results, Try.results21, go_sem, y0, y1]) rfl ⟨X, x, by rw [HLT.out], HOY.out, HFT.out, HBY.out⟩
      · by_cases hmin2 : keep ≤ 20
        · have hmm : ¬ 20 < keep := by omega
          have hm3 : ¬ s + keep < (n : Int) := by omega
          obtain ⟨k, hkk⟩ : ∃ k : Nat, (n : Int) = (k : Int) := ⟨((n : Int)).toNat, by omega⟩
          have hkn : k ≤ n := by omega
          have HK : Hid (keepN rs s keep = k) := by
            show _ = _
            unfold keepN
            rw [HN.out]
            omega
          have HLT : Hid ((rs.take k).length = k) := by show _ = _; rw [List.length_take, HN.out]; omega
          have HFT : Hid (FitR (rs.take k)) := HJ.out.fit.take k
          have HR : Hid (crashR rs s keep = rs.take k) := by show _ = _; unfold crashR; rw [if_pos ⟨hO'.out, hk⟩, HK.out]
          have HS : Hid (crashS rs s keep = (k : Int)) := by show _ = _; unfold crashS; rw [if_pos ⟨hO'.out, hk⟩, HK.out]
          have hn20 : (n : Int) ≤ 20 := by omega
          have hs2 : s ≤ 20 := by omega
          rw [HR.out, HS.out]
          have HKK := Lib.hid hkk
          clear hkk
          go_enter Try.func21, Try.ntmps21
          go_wp2_with fail
          rw [HW.out]
          refine (CV.out _ HB.out).mono ?_
          rintro e w1 ⟨rfl, hb1⟩
          have KZ1 := Lib.hid (KZ.out.below hb1 KZ.out.lt)
          have KJ1 := Lib.hid (KJ.out.below hb1 KJ.out.lt)
          have HB1 : Hid (Below w.heap.size w w1) := HB.out.trans (hb1.mono HB.out.size)
          clear hb1
          obtain ⟨j0, j1⟩ := jr_cells KJ1.out
          go_upto_region 4 with fail
          obtain ⟨s5, h5⟩ : ∃ v : Int, v = (n : Int) := ⟨_, rfl⟩
          rw [← h5]
          have h5k : s5 = (k : Int) := h5.trans HKK.out
          subst h5k
          have hk0 : (0 : Int) ≤ (k : Int) := by omega
          have hkc : (k : Int) ≤ (cap : Int) := by omega
          clear h5
          have hz1 : w.heap.size < w1.heap.size := KJ1.out.lt
          have hz1a : w.heap.size + 1 < w1.heap.size := KZ1.out.lt
          have HROW : Hid (RowAt RK (w1.alloc (.cells #[] 38)) (w1.alloc (.cells #[] 38)).heap.size A (rs.take k)) := (((HJ.out.belowS HB1.out).allocS _).first k).row
          have HNEW : Hid (OwnRow RK (w1.alloc (.cells #[] 38)) w1.heap.size (some ⟨w1.heap.size, 0, none⟩) 0 []) := OwnRow.new RK w1
          go_wp2_with (at_builtin; refine wpList_app_row (K := RK) Try.underlying27 HI0.out.1 HI0.out.2.1 HI0.out.2.2.1 HI0.out.2.2.2.1 HI0.out.2.2.2.2 (by decide) rfl (.tmp 23) (.tmp 27) rfl _ w1.heap.size (some ⟨w1.heap.size, 0, none⟩) 0 [] rfl A cap (rs.take k) (by rw [HLT.out]; rfl) HNEW.out HROW.out (by rw [HLT.out]; simp; omega) (by simp) hnil ?_; intro v w2 hA; obtain ⟨X, x, rfl, ho2⟩ := hA.own; have hbel := hA.below; have KZ2 := Lib.hid ((KZ1.out.alloc (.cells #[] 38)).below hbel (by omega)); have HB2 : Hid (Below w.heap.size w w2) := (HB1.out.alloc HB1.out.size _).trans (hbel.mono (by omega)); rw [List.nil_append, HLT.out]; rw [List.nil_append] at ho2; have HO2 : Hid (OwnRow RK w2 w.heap.size X x (rs.take k)) := ho2.base_le (by omega); clear hA ho2 hbel j0 j1; obtain ⟨z0, z1⟩ := jr_cells KZ2.out; have zf := blk_frozen KZ2.out)
          obtain ⟨Y, HY⟩ : ∃ Y, Hid ((w2.setCell ⟨w.heap.size + 1, 0, none⟩ (.slice X k x)).setCell ⟨w.heap.size + 1, 1, none⟩ (.int .i64 (k : Int)) = Y) := ⟨_, rfl⟩
          have HBY : Hid (Below w.heap.size w Y) := by rw [← HY.out]; exact below_two HB2.out (by omega) _ _
          have KY : Hid (Blk Y (w.heap.size + 1) 29 #[.slice X k x, .int .i64 (k : Int)]) := by rw [← HY.out]; exact blk_two KZ2.out _ _
          have HOY : Hid (OwnRow RK Y w.heap.size X x (rs.take k)) := by rw [← HY.out]; exact rown_two HO2.out KZ2.out _ _
          rw [HY.out]
          obtain ⟨y0, y1⟩ := jr_cells KY.out
          exact bodyPost_ret (v := journalV X k x (k : Int)) (by simp [results, Try.results21, go_sem, y0, y1]) rfl ⟨X, x, by rw [HLT.out], HOY.out, HFT.out, HBY.out⟩
        · have hmm : 20 < keep := by omega
          have hm3 : ¬ s + 20 < (n : Int) := by omega
          obtain ⟨k, hkk⟩ : ∃ k : Nat, (n : Int) = (k : Int) := ⟨((n : Int)).toNat, by omega⟩
          have hkn : k ≤ n := by omega
          have HK : Hid (keepN rs s keep = k) := by
            show _ = _
            unfold keepN
            rw [HN.out]
            omega
          have HLT : Hid ((rs.take k).length = k) := by show _ = _; rw [List.length_take, HN.out]; omega
          have HFT : Hid (FitR (rs.take k)) := HJ.out.fit.take k
          have HR : Hid (crashR rs s keep = rs.take k) := by show _ = _; unfold crashR; rw [if_pos ⟨hO'.out, hk⟩, HK.out]
          have HS : Hid (crashS rs s keep = (k : Int)) := by show _ = _; unfold crashS; rw [if_pos ⟨hO'.out, hk⟩, HK.out]
          have hn20 : (n : Int) ≤ 20 := by omega
          have hs2 : s ≤ 20 := by omega
          rw [HR.out, HS.out]
          have HKK := Lib.hid hkk
          clear hkk
          go_enter Try.func21, Try.ntmps21
          go_wp2_with fail
          rw [HW.out]
          refine (CV.out _ HB.out).mono ?_
          rintro e w1 ⟨rfl, hb1⟩
          have KZ1 := Lib.hid (KZ.out.below hb1 KZ.out.lt)
          have KJ1 := Lib.hid (KJ.out.below hb1 KJ.out.lt)
          have HB1 : Hid (Below w.heap.size w w1) := HB.out.trans (hb1.mono HB.out.size)
          clear hb1
          obtain ⟨j0, j1⟩ := jr_cells KJ1.out
          go_upto_region 4 with fail
          obtain ⟨s5, h5⟩ : ∃ v : Int, v = (n : Int) := ⟨_, rfl⟩
          rw [← h5]
          have h5k : s5 = (k : Int) := h5.trans HKK.out
          subst h5k
          have hk0 : (0 : Int) ≤ (k : Int) := by omega
          have hkc : (k : Int) ≤ (cap : Int) := by omega
          clear h5
          have hz1 : w.heap.size < w1.heap.size := KJ1.out.lt
          have hz1a : w.heap.size + 1 < w1.heap.size := KZ1.out.lt
          have HROW : Hid (RowAt RK (w1.alloc (.cells #[] 38)) (w1.alloc (.cells #[] 38)).heap.size A (rs.take k)) := (((HJ.out.belowS HB1.out).allocS _).first k).row
          have HNEW : Hid (OwnRow RK (w1.alloc (.cells #[] 38)) w1.heap.size (some ⟨w1.heap.size, 0, none⟩) 0 []) := OwnRow.new RK w1
          go_wp2_with (at_builtin; refine wpList_app_row (K := RK) Try.underlying27 HI0.out.1 HI0.out.2.1 HI0.out.2.2.1 HI0.out.2.2.2.1 HI0.out.2.2.2.2 (by decide) rfl (.tmp 23) (.tmp 27) rfl _ w1.heap.size (some ⟨w1.heap.size, 0, none⟩) 0 [] rfl A cap (rs.take k) (by rw [HLT.out]; rfl) HNEW.out HROW.out (by rw [HLT.out]; simp; omega) (by simp) hnil ?_; intro v w2 hA; obtain ⟨X, x, rfl, ho2⟩ := hA.own; have hbel := hA.below; have KZ2 := Lib.hid ((KZ1.out.alloc (.cells #[] 38)).below hbel (by omega)); have HB2 : Hid (Below w.heap.size w w2) := (HB1.out.alloc HB1.out.size _).trans (hbel.mono (by omega)); rw [List.nil_append, HLT.out]; rw [List.nil_append] at ho2; have HO2 : Hid (OwnRow RK w2 w.heap.size X x (rs.take k)) := ho2.base_le (by omega); clear hA ho2 hbel j0 j1; obtain ⟨z0, z1⟩ := jr_cells KZ2.out; have zf := blk_frozen KZ2.out)
          obtain ⟨Y, HY⟩ : ∃ Y, Hid ((w2.setCell ⟨w.heap.size + 1, 0, none⟩ (.slice X k x)).setCell ⟨w.heap.size + 1, 1, none⟩ (.int .i64 (k : Int)) = Y) := ⟨_, rfl⟩
          have HBY : Hid (Below w.heap.size w Y) := by rw [← HY.out]; exact below_two HB2.out (by omega) _ _
          have KY : Hid (Blk Y (w.heap.size + 1) 29 #[.slice X k x, .int .i64 (k : Int)]) := by rw [← HY.out]; exact blk_two KZ2.out _ _
          have HOY : Hid (OwnRow RK Y w.heap.size X x (rs.take k)) := by rw [← HY.out]; exact rown_two HO2.out KZ2.out _ _
          rw [HY.out]
          obtain ⟨y0, y1⟩ := jr_cells KY.out
          exact bodyPost_ret (v := journalV X k x (k : Int)) (by simp [results, Try.results21, go_sem, y0, y1]) rfl ⟨X, x, by rw [HLT.out], HOY.out, HFT.out, HBY.out⟩
    · have hk1 : keep < 0 := by omega
      have HR : Hid (crashR rs s keep = []) := by show _ = _; unfold crashR; rw [if_neg (fun h => hk h.2)]
      have HS : Hid (crashS rs s keep = 0) := by show _ = _; unfold crashS; rw [if_neg (fun h => hk h.2)]
      rw [HR.out, HS.out]
      clear hk
      go_enter Try.func21, Try.ntmps21
      go_wp2_with fail
      rw [HW.out]
      refine (CV.out _ HB.out).mono ?_
      rintro e w1 ⟨rfl, hb1⟩
      have KZ1 := Lib.hid (KZ.out.below hb1 KZ.out.lt)
      have HB1 : Hid (Below w.heap.size w w1) := HB.out.trans (hb1.mono HB.out.size)
      clear hb1
      obtain ⟨z0, z1⟩ := jr_cells KZ1.out
      have zf := blk_frozen KZ1.out
      go_wp2
      obtain ⟨Y, HY⟩ : ∃ Y, Hid ((w1.setCell ⟨w.heap.size + 1, 0, none⟩ (.slice none 0 0)).setCell ⟨w.heap.size + 1, 1, none⟩ (.int .i64 0) = Y) := ⟨_, rfl⟩
      have HBY : Hid (Below w.heap.size w Y) := by rw [← HY.out]; exact below_two HB1.out (by omega) _ _
      have KY : Hid (Blk Y (w.heap.size + 1) 29 #[.slice none 0 0, .int .i64 0]) := by rw [← HY.out]; exact blk_two KZ1.out _ _
      rw [HY.out]
      obtain ⟨y0, y1⟩ := jr_cells KY.out
      exact bodyPost_ret (v := journalV none 0 0 0) (by simp [results, Try.results21, go_sem, y0, y1]) rfl ⟨none, 0, rfl, OwnRow.zero RK _ _, FitR.of (fun _ h => by cases h), HBY.out⟩

set_option maxHeartbeats 4000000 in
set_option maxRecDepth 100000 in
theorem sjadd_any (A : Option Addr) (cap : Nat) (s : Int) (rs : List RD) (r : RD) (w : World) (hJ : JAt w w.heap.size A cap rs) (hr : r.t.size ≤ maxLen) :
    Calls Try.prog 14 #[journalV A rs.length cap s, recV r] w (RetJ2 w (addR rs s r) (addS rs s r) (addB rs s r)) := by
  have HJ := Lib.hid hJ
  have CR : Hid (∀ U, Calls Try.prog 32 #[recV r] U fun e w' => e = .returned (.bool (recB r)) ∧ Below U.heap.size U w') := fun U => srecord_any r U hr
  have HFS : Hid (FitR (rs ++ [r])) := hJ.fit.snoc hr
  have CV : Hid (∀ U, Below w.heap.size w U → Calls Try.prog 9 #[journalV A rs.length cap s] U fun e w' => e = .returned (.bool (jokB rs s)) ∧ Below U.heap.size U w') := fun U hU => sjvalid_any A cap s rs U (hJ.belowS hU)
  have CC : Hid (jokB rs s = true → ∀ U, Below w.heap.size w U → Calls Try.prog 39 #[journalV A rs.length cap s] U (RetJ U rs s)) := fun hO U hU => sjcopy_any A cap s rs U (hJ.belowS hU) (by have := ((jokB_iff _ _).1 hO).1; omega)
  clear hJ
  obtain ⟨ri, rt⟩ := r
  obtain ⟨i0, zz, hi0, hz0, hz1, hz2, hz3⟩ := app_info
  have HI0 := Lib.hid (And.intro hi0 (And.intro hz0 (And.intro hz1 (And.intro hz2 hz3))))
  clear hi0 hz0 hz1 hz2 hz3
  obtain ⟨n, HN⟩ : ∃ n, Hid (rs.length = n) := ⟨_, rfl⟩
  rw [HN.out] at CV CC ⊢
  obtain ⟨W, HW⟩ : ∃ W, Hid (((w.alloc (.cells #[.slice A n cap, .int .i64 s] 29)).alloc (.cells #[.int .i64 ri, .string rt] 38)).alloc (.cells #[.slice none 0 0, .int .i64 0] 29) = W) := ⟨_, rfl⟩
  have KJ : Hid (Blk W w.heap.size 29 #[.slice A n cap, .int .i64 s]) := by rw [← HW.out]; exact ((Blk.new w _ _).alloc _).alloc _
  have KR : Hid (Blk W (w.heap.size + 1) 38 #[.int .i64 ri, .string rt]) := by
    rw [← HW.out]
    have h := (Blk.new (w.alloc (.cells #[.slice A n cap, .int .i64 s] 29)) 38 #[.int .i64 ri, .string rt]).alloc (.cells #[.slice none 0 0, .int .i64 0] 29)
    rw [World.size_alloc] at h
    exact h
  have KZ : Hid (Blk W (w.heap.size + 1 + 1) 29 #[.slice none 0 0, .int .i64 0]) := by
    rw [← HW.out]
    have h := Blk.new ((w.alloc (.cells #[.slice A n cap, .int .i64 s] 29)).alloc (.cells #[.int .i64 ri, .string rt] 38)) 29 #[.slice none 0 0, .int .i64 0]
    rw [World.size_alloc, World.size_alloc] at h
    exact h
  have HB : Hid (Below w.heap.size w W) := by rw [← HW.out]; exact (((Below.refl _ w).alloc (Nat.le_refl _) _).alloc (by simp) _).alloc (by simp; omega) _
  cases hO : jokB rs s with
  | false =>
    have HR : Hid (addR rs s ⟨ri, rt⟩ = [] ∧ addS rs s ⟨ri, rt⟩ = 0 ∧ addB rs s ⟨ri, rt⟩ = false) := by
      show _ ∧ _ ∧ _
      unfold addR addS addB
      rw [hO, if_neg (by simp), if_neg (by simp)]
      exact ⟨rfl, rfl, by simp⟩
    rw [hO] at CV
    rw [HR.out.1, HR.out.2.1, HR.out.2.2]
    clear CC CR hO
    go_enter Try.func14, Try.ntmps14
    go_wp2_with fail
    rw [HW.out]
    refine (CV.out _ HB.out).mono ?_
    rintro e w1 ⟨rfl, hb1⟩
    have KZ1 := Lib.hid (KZ.out.below hb1 KZ.out.lt)
    have HB1 : Hid (Below w.heap.size w w1) := HB.out.trans (hb1.mono HB.out.size)
    clear hb1
    obtain ⟨z0, z1⟩ := jr_cells KZ1.out
    have zf := blk_frozen KZ1.out
    go_wp2
    obtain ⟨Y, HY⟩ : ∃ Y, Hid ((w1.setCell ⟨w.heap.size + 1 + 1, 0, none⟩ (.slice none 0 0)).setCell ⟨w.heap.size + 1 + 1, 1, none⟩ (.int .i64 0) = Y) := ⟨_, rfl⟩
    have HBY : Hid (Below w.heap.size w Y) := by rw [← HY.out]; exact below_two HB1.out (by omega) _ _
    have KY : Hid (Blk Y (w.heap.size + 1 + 1) 29 #[.slice none 0 0, .int .i64 0]) := by rw [← HY.out]; exact blk_two KZ1.out _ _
    rw [HY.out]
    obtain ⟨y0, y1⟩ := jr_cells KY.out
    exact bodyPost_ret (v := .tuple #[journalV none 0 0 0, .bool false]) (by simp [results, Try.results14, go_sem, y0, y1]) rfl ⟨none, 0, rfl, OwnRow.zero RK _ _, FitR.of (fun _ h => by cases h), HBY.out⟩
  | true =>
    have h20 := ((jokB_iff _ _).1 hO).1
    rw [HN.out] at h20
    have CC2 := Lib.hid (CC.out hO)
    have HO := Lib.hid hO
    rw [hO] at CV
    clear CC hO
    cases hq : recB ⟨ri, rt⟩ with
    | false =>
      have HR : Hid (addR rs s ⟨ri, rt⟩ = [] ∧ addS rs s ⟨ri, rt⟩ = 0 ∧ addB rs s ⟨ri, rt⟩ = false) := by
        show _ ∧ _ ∧ _
        unfold addR addS addB
        rw [hq, if_neg (by simp), if_neg (by simp)]
        exact ⟨rfl, rfl, by simp⟩
      rw [hq] at CR
      rw [HR.out.1, HR.out.2.1, HR.out.2.2]
      clear CC2 hq
      go_enter Try.func14, Try.ntmps14
      go_wp2_with fail
      rw [HW.out]
      refine (CV.out _ HB.out).mono ?_
      rintro e w1 ⟨rfl, hb1⟩
      have KZ1 := Lib.hid (KZ.out.below hb1 KZ.out.lt)
      have KJ1 := Lib.hid (KJ.out.below hb1 KJ.out.lt)
      have KR1 := Lib.hid (KR.out.below hb1 KR.out.lt)
      have HB1 : Hid (Below w.heap.size w w1) := HB.out.trans (hb1.mono HB.out.size)
      clear hb1
      obtain ⟨r0, r1⟩ := jr_cells KR1.out
      go_wp2_with fail
      refine (CR.out _).mono ?_
      rintro e w2 ⟨rfl, hb2⟩
      have KZ2 := Lib.hid (KZ1.out.below hb2 KZ1.out.lt)
      have KJ2 := Lib.hid (KJ1.out.below hb2 KJ1.out.lt)
      have KR2 := Lib.hid (KR1.out.below hb2 KR1.out.lt)
      have HB2 : Hid (Below w.heap.size w w2) := HB1.out.trans (hb2.mono HB1.out.size)
      clear hb2 r0 r1
      obtain ⟨z0, z1⟩ := jr_cells KZ2.out
      have zf := blk_frozen KZ2.out
      go_wp2
      obtain ⟨Y, HY⟩ : ∃ Y, Hid ((w2.setCell ⟨w.heap.size + 1 + 1, 0, none⟩ (.slice none 0 0)).setCell ⟨w.heap.size + 1 + 1, 1, none⟩ (.int .i64 0) = Y) := ⟨_, rfl⟩
      have HBY : Hid (Below w.heap.size w Y) := by rw [← HY.out]; exact below_two HB2.out (by omega) _ _
      have KY : Hid (Blk Y (w.heap.size + 1 + 1) 29 #[.slice none 0 0, .int .i64 0]) := by rw [← HY.out]; exact blk_two KZ2.out _ _
      rw [HY.out]
      obtain ⟨y0, y1⟩ := jr_cells KY.out
      exact bodyPost_ret (v := .tuple #[journalV none 0 0 0, .bool false]) (by simp [results, Try.results14, go_sem, y0, y1]) rfl ⟨none, 0, rfl, OwnRow.zero RK _ _, FitR.of (fun _ h => by cases h), HBY.out⟩
    | true =>
      rw [hq] at CR
      have HQ := Lib.hid hq
      clear hq
      by_cases hlt : n < 20
      · have HR : Hid (addR rs s ⟨ri, rt⟩ = rs ++ [(⟨ri, rt⟩ : RD)] ∧ addS rs s ⟨ri, rt⟩ = s ∧ addB rs s ⟨ri, rt⟩ = true) := by
          show _ ∧ _ ∧ _
          unfold addR addS addB
          simp only [HO.out, HQ.out, HN.out, hlt, and_self, Bool.true_and, decide_true, ↓reduceIte]
        rw [HR.out.1, HR.out.2.1, HR.out.2.2]
        have hlti : ¬ (20 : Int) ≤ (n : Int) := by omega
        go_enter Try.func14, Try.ntmps14
        go_wp2_with fail
        rw [HW.out]
        refine (CV.out _ HB.out).mono ?_
        rintro e w1 ⟨rfl, hb1⟩
        have KZ1 := Lib.hid (KZ.out.below hb1 KZ.out.lt)
        have KJ1 := Lib.hid (KJ.out.below hb1 KJ.out.lt)
        have KR1 := Lib.hid (KR.out.below hb1 KR.out.lt)
        have HB1 : Hid (Below w.heap.size w w1) := HB.out.trans (hb1.mono HB.out.size)
        clear hb1
        obtain ⟨r0, r1⟩ := jr_cells KR1.out
        go_wp2_with fail
        refine (CR.out _).mono ?_
        rintro e w2 ⟨rfl, hb2⟩
        have KZ2 := Lib.hid (KZ1.out.below hb2 KZ1.out.lt)
        have KJ2 := Lib.hid (KJ1.out.below hb2 KJ1.out.lt)
        have KR2 := Lib.hid (KR1.out.below hb2 KR1.out.lt)
        have HB2 : Hid (Below w.heap.size w w2) := HB1.out.trans (hb2.mono HB1.out.size)
        clear hb2 r0 r1
        go_upto_region 3 with fail
        obtain ⟨j0, j1⟩ := jr_cells KJ2.out
        go_wp2_with fail
        refine (CC2.out _ HB2.out).mono ?_
        rintro e w3 ⟨X, x, rfl, ho3, hf3, hb3⟩
        rw [HN.out]
        have KZ3 := Lib.hid (KZ2.out.below hb3 KZ2.out.lt)
        have KR3 := Lib.hid (KR2.out.below hb3 KR2.out.lt)
        have KJ3 := Lib.hid (KJ2.out.below hb3 KJ2.out.lt)
        have HB3 : Hid (Below w.heap.size w w3) := HB2.out.trans (hb3.mono HB2.out.size)
        have HO3 : Hid (OwnRow RK w3 w.heap.size X x rs) := ho3.base_le HB2.out.size
        have HF3 := Lib.hid hf3
        have hz3 : w.heap.size + 1 + 1 < w3.heap.size := KZ3.out.lt
        have hz3a : w.heap.size + 1 < w3.heap.size := KR3.out.lt
        have hz3b : w.heap.size < w3.heap.size := KJ3.out.lt
        clear hb3 ho3 hf3 j0 j1
        go_upto_region 4 with fail
        obtain ⟨w4, HW4⟩ : ∃ Q0, Hid (w3.alloc (.cells #[.slice X n x, .int .i64 s] 29) = Q0) := ⟨_, rfl⟩
        have KO4 : Hid (Blk w4 w3.heap.size 29 #[.slice X n x, .int .i64 s]) := by rw [← HW4.out]; exact Blk.new w3 29 _
        have KZ4 : Hid (Blk w4 (w.heap.size + 1 + 1) 29 #[.slice none 0 0, .int .i64 0]) := by rw [← HW4.out]; exact KZ3.out.alloc _
        have KR4 : Hid (Blk w4 (w.heap.size + 1) 38 #[.int .i64 ri, .string rt]) := by rw [← HW4.out]; exact KR3.out.alloc _
        have KJ4 : Hid (Blk w4 w.heap.size 29 #[.slice A n cap, .int .i64 s]) := by rw [← HW4.out]; exact KJ3.out.alloc _
        have HB4 : Hid (Below w.heap.size w w4) := by rw [← HW4.out]; exact HB3.out.alloc HB3.out.size _
        have HO4 : Hid (OwnRow RK w4 w.heap.size X x rs) := by rw [← HW4.out]; exact HO3.out.alloc _
        have hz4 : w3.heap.size < w4.heap.size := KO4.out.lt
        obtain ⟨j0, j1⟩ := jr_cells KJ4.out
        obtain ⟨o0, o1⟩ := jr_cells KO4.out
        obtain ⟨r0, r1⟩ := jr_cells KR4.out
        rw [HW4.out]
        have HN5 : Hid ((rs ++ [(⟨ri, rt⟩ : RD)]).length = n + 1) := by show _ = _; rw [List.length_append, HN.out]; rfl
        have hz4a : w.heap.size + 1 + 1 < w4.heap.size := by omega
        have hz4b : w.heap.size + 1 < w4.heap.size := by omega
        have hz4c : w.heap.size < w4.heap.size := by omega
        have of := blk_frozen KO4.out
        go_upto_region 7 with (at_builtin; refine wpList_app_row (K := RK) Try.underlying27 HI0.out.1 HI0.out.2.1 HI0.out.2.2.1 HI0.out.2.2.2.1 HI0.out.2.2.2.2 (by decide) rfl (.tmp 24) (.tmp 26) rfl _ w.heap.size X x rs (by rw [HN.out]; first | done | rfl) _ _ [(⟨ri, rt⟩ : RD)] rfl (HO4.out.alloc _) (one_newG RK w4 ⟨ri, rt⟩ _ rfl) (by rw [HN.out]; show n + 1 ≤ 1000000; omega) (by rw [World.size_alloc]; omega) (fun e => by cases e) ?_; intro v w5 hA; obtain ⟨X5, x5, rfl, ho5⟩ := hA.own; have hg5 := hA.grown; have hbel5 := hA.below; have hne5 : ∀ y, Value.ownBlock (.slice X rs.length x) = some y → y ≠ w3.heap.size := fun y hy e => (by subst e; exact own_blk_ne HO4.out KO4.out (by decide) hy); have hne6 : ∀ y, Value.ownBlock (.slice X rs.length x) = some y → y ≠ w.heap.size + 1 + 1 := fun y hy e => (by subst e; exact own_blk_ne HO4.out KZ4.out (by decide) hy); have KO5 := Lib.hid ((KO4.out.alloc (.cells #[.int .i64 ri, .string rt] 38)).grown hg5 (fun e => hne5 _ e.symm rfl)); have KZ5 := Lib.hid ((KZ4.out.alloc (.cells #[.int .i64 ri, .string rt] 38)).grown hg5 (fun e => hne6 _ e.symm rfl)); have HB5 : Hid (Below w.heap.size w w5) := (HB4.out.alloc HB4.out.size _).trans hbel5; have HO5 := Lib.hid ho5; rw [HN5.out]; clear hA hg5 hbel5 ho5 hne5 hne6 j0 j1 o0 o1 r0 r1 of; obtain ⟨o0, o1⟩ := jr_cells KO5.out; have of := blk_frozen KO5.out)
        obtain ⟨w6, HW6⟩ : ∃ Q0, Hid (w5.setCell ⟨w3.heap.size, 0, none⟩ (.slice X5 (n + 1) x5) = Q0) := ⟨_, rfl⟩
        have KO6 : Hid (Blk w6 w3.heap.size 29 #[.slice X5 (n + 1) x5, .int .i64 s]) := by rw [← HW6.out]; exact KO5.out.setOwn 0 _
        have KZ6 : Hid (Blk w6 (w.heap.size + 1 + 1) 29 #[.slice none 0 0, .int .i64 0]) := by rw [← HW6.out]; exact KZ5.out.setOther (p := ⟨w3.heap.size, 0, none⟩) (by show w3.heap.size ≠ _; omega) _
        have HB6 : Hid (Below w.heap.size w w6) := by rw [← HW6.out]; exact HB5.out.setCell (p := ⟨w3.heap.size, 0, none⟩) (by show w.heap.size ≤ w3.heap.size; omega) _
        have HO6 : Hid (OwnRow RK w6 w.heap.size X5 x5 (rs ++ [(⟨ri, rt⟩ : RD)])) := by
          rw [← HW6.out]
          exact rown_block HO5.out fun y hy => Below.heap_setCell _ ⟨w3.heap.size, 0, none⟩ _ y (own_ne_blk HO5.out KO5.out (by decide) y hy)
        rw [HW6.out]
        clear o0 o1 of
        obtain ⟨o0, o1⟩ := jr_cells KO6.out
        obtain ⟨z0, z1⟩ := jr_cells KZ6.out
        have zf := blk_frozen KZ6.out
        go_wp2
        obtain ⟨Y, HY⟩ : ∃ Y, Hid ((w6.setCell ⟨w.heap.size + 1 + 1, 0, none⟩ (.slice X5 (n + 1) x5)).setCell ⟨w.heap.size + 1 + 1, 1, none⟩ (.int .i64 s) = Y) := ⟨_, rfl⟩
        have HBY : Hid (Below w.heap.size w Y) := by rw [← HY.out]; exact below_two HB6.out (by omega) _ _
        have KY : Hid (Blk Y (w.heap.size + 1 + 1) 29 #[.slice X5 (n + 1) x5, .int .i64 s]) := by rw [← HY.out]; exact blk_two KZ6.out _ _
        have HOY : Hid (OwnRow RK Y w.heap.size X5 x5 (rs ++ [(⟨ri, rt⟩ : RD)])) := by rw [← HY.out]; exact rown_two HO6.out KZ6.out _ _
        rw [HY.out]
        obtain ⟨y0, y1⟩ := jr_cells KY.out
        exact bodyPost_ret (v := .tuple #[journalV X5 (n + 1) x5 s, .bool true]) (by simp [results, Try.results14, go_sem, y0, y1]) rfl ⟨X5, x5, by rw [HN5.out], HOY.out, HFS.out, HBY.out⟩
      · have HR : Hid (addR rs s ⟨ri, rt⟩ = rs ∧ addS rs s ⟨ri, rt⟩ = s ∧ addB rs s ⟨ri, rt⟩ = false) := by
          show _ ∧ _ ∧ _
          unfold addR addS addB
          simp only [HO.out, HQ.out, HN.out, hlt, and_self, Bool.true_and, decide_false, ↓reduceIte]
        rw [HR.out.1, HR.out.2.1, HR.out.2.2]
        have hlti : (20 : Int) ≤ (n : Int) := by omega
        go_enter Try.func14, Try.ntmps14
        go_wp2_with fail
        rw [HW.out]
        refine (CV.out _ HB.out).mono ?_
        rintro e w1 ⟨rfl, hb1⟩
        have KZ1 := Lib.hid (KZ.out.below hb1 KZ.out.lt)
        have KJ1 := Lib.hid (KJ.out.below hb1 KJ.out.lt)
        have KR1 := Lib.hid (KR.out.below hb1 KR.out.lt)
        have HB1 : Hid (Below w.heap.size w w1) := HB.out.trans (hb1.mono HB.out.size)
        clear hb1
        obtain ⟨r0, r1⟩ := jr_cells KR1.out
        go_wp2_with fail
        refine (CR.out _).mono ?_
        rintro e w2 ⟨rfl, hb2⟩
        have KZ2 := Lib.hid (KZ1.out.below hb2 KZ1.out.lt)
        have KJ2 := Lib.hid (KJ1.out.below hb2 KJ1.out.lt)
        have KR2 := Lib.hid (KR1.out.below hb2 KR1.out.lt)
        have HB2 : Hid (Below w.heap.size w w2) := HB1.out.trans (hb2.mono HB1.out.size)
        clear hb2 r0 r1
        go_upto_region 3 with fail
        obtain ⟨j0, j1⟩ := jr_cells KJ2.out
        go_wp2_with fail
        refine (CC2.out _ HB2.out).mono ?_
        rintro e w3 ⟨X, x, rfl, ho3, hf3, hb3⟩
        rw [HN.out]
        have KZ3 := Lib.hid (KZ2.out.below hb3 KZ2.out.lt)
        have KR3 := Lib.hid (KR2.out.below hb3 KR2.out.lt)
        have KJ3 := Lib.hid (KJ2.out.below hb3 KJ2.out.lt)
        have HB3 : Hid (Below w.heap.size w w3) := HB2.out.trans (hb3.mono HB2.out.size)
        have HO3 : Hid (OwnRow RK w3 w.heap.size X x rs) := ho3.base_le HB2.out.size
        have HF3 := Lib.hid hf3
        have hz3 : w.heap.size + 1 + 1 < w3.heap.size := KZ3.out.lt
        have hz3a : w.heap.size + 1 < w3.heap.size := KR3.out.lt
        have hz3b : w.heap.size < w3.heap.size := KJ3.out.lt
        clear hb3 ho3 hf3 j0 j1
        go_upto_region 4 with fail
        obtain ⟨w4, HW4⟩ : ∃ Q0, Hid (w3.alloc (.cells #[.slice X n x, .int .i64 s] 29) = Q0) := ⟨_, rfl⟩
        have KO4 : Hid (Blk w4 w3.heap.size 29 #[.slice X n x, .int .i64 s]) := by rw [← HW4.out]; exact Blk.new w3 29 _
        have KZ4 : Hid (Blk w4 (w.heap.size + 1 + 1) 29 #[.slice none 0 0, .int .i64 0]) := by rw [← HW4.out]; exact KZ3.out.alloc _
        have KR4 : Hid (Blk w4 (w.heap.size + 1) 38 #[.int .i64 ri, .string rt]) := by rw [← HW4.out]; exact KR3.out.alloc _
        have KJ4 : Hid (Blk w4 w.heap.size 29 #[.slice A n cap, .int .i64 s]) := by rw [← HW4.out]; exact KJ3.out.alloc _
        have HB4 : Hid (Below w.heap.size w w4) := by rw [← HW4.out]; exact HB3.out.alloc HB3.out.size _
        have HO4 : Hid (OwnRow RK w4 w.heap.size X x rs) := by rw [← HW4.out]; exact HO3.out.alloc _
        have hz4 : w3.heap.size < w4.heap.size := KO4.out.lt
        obtain ⟨j0, j1⟩ := jr_cells KJ4.out
        obtain ⟨o0, o1⟩ := jr_cells KO4.out
        obtain ⟨r0, r1⟩ := jr_cells KR4.out
        rw [HW4.out]
        obtain ⟨z0, z1⟩ := jr_cells KZ4.out
        have zf := blk_frozen KZ4.out
        go_wp2
        obtain ⟨Y, HY⟩ : ∃ Y, Hid ((w4.setCell ⟨w.heap.size + 1 + 1, 0, none⟩ (.slice X n x)).setCell ⟨w.heap.size + 1 + 1, 1, none⟩ (.int .i64 s) = Y) := ⟨_, rfl⟩
        have HBY : Hid (Below w.heap.size w Y) := by rw [← HY.out]; exact below_two HB4.out (by omega) _ _
        have KY : Hid (Blk Y (w.heap.size + 1 + 1) 29 #[.slice X n x, .int .i64 s]) := by rw [← HY.out]; exact blk_two KZ4.out _ _
        have HOY : Hid (OwnRow RK Y w.heap.size X x rs) := by rw [← HY.out]; exact rown_two HO4.out KZ4.out _ _
        rw [HY.out]
        obtain ⟨y0, y1⟩ := jr_cells KY.out
        exact bodyPost_ret (v := .tuple #[journalV X n x s, .bool false]) (by simp [results, Try.results14, go_sem, y0, y1]) rfl ⟨X, x, by rw [HN.out], HOY.out, HF3.out, HBY.out⟩

end Go.Proofs.Ytmddfjfflgfdlaa
