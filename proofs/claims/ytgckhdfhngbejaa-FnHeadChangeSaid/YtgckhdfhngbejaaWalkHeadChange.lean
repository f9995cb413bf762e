/- The walk of FnHeadChange: it returns true and changes nothing that was there. Condition: the codes' bytes lie in memory. -/
import Derived.Test.YtgckhdfhngbejaaMade
import Derived.Test.YtgckhdfhngbejaaDrawSecret
import Derived.Test.YtgckhdfhngbejaaIn
import Derived.Test.YtgckhdfhngbejaaOther
namespace Go.Proofs.Ytgckhdfhngbejaa
open Go.RowKit
set_option linter.unusedVariables false

set_option maxHeartbeats 4000000 in
set_option maxRecDepth 100000 in
theorem walkHeadChange (A : Option Addr) (len cap : Nat) (A1 : Option Addr) (len1 cap1 : Nat) (w : World) (hI : In w A len cap) (hI1 : In w A1 len1 cap1) :
    Calls Try.prog 9 #[.slice A len cap, .slice A1 len1 cap1] w fun e w' => e = .returned (.bool true) ∧ Below w.heap.size w w' := by
  have hm := hI.len_le
  have hm1 := hI1.len_le
  unfold maxLen at hm hm1
  have HI := Lib.hid hI
  clear hI hI1
  by_cases hlen : len ≤ 1048576
  · by_cases hlen1 : len1 ≤ 1048576
    · go_enter Try.func9, Try.ntmps9
      go_wp2_with fail
      refine (drawmake_any A len cap _ HI.out).mono ?_
      rintro e w1 ⟨b, c, zs, s, rfl, hz28, hnear, hs1, hs2, hown1, hb1⟩
      have HO1 := Lib.hid hown1
      have HB1 := Lib.hid hb1
      clear hown1 hb1 hnear
      obtain ⟨l, Hl⟩ : ∃ l, Hid (madeL s zs = l) := ⟨_, rfl⟩
      obtain ⟨d, Hd⟩ : ∃ d, Hid (madeD s zs = d) := ⟨_, rfl⟩
      obtain ⟨t, Ht⟩ : ∃ t, Hid (madeS s zs = t) := ⟨_, rfl⟩
      obtain ⟨R, HR⟩ : ∃ R, Hid (madeOk s zs = R) := ⟨_, rfl⟩
      go_wp2_with fail
      refine (make_any s zs b 0 c _ HO1.out.ints HO1.out.le.1 HO1.out.le.2).mono ?_
      rintro e w2 ⟨rfl, hb2⟩
      rw [Hl.out, Hd.out, Ht.out, HR.out]
      have HO2 := Lib.hid ((HO1.out.below hb2).alloc (.cells #[.int .i64 l, .int .i64 d, .int .i64 t] 27))
      have HB2 : Hid (Below w.heap.size w w2) := HB1.out.trans (hb2.mono HB1.out.size)
      clear hb2
      have hz2 : w.heap.size ≤ w2.heap.size := HB2.out.size
      go_wp2_with fail
      refine (smake_any s zs b 0 c _ HO2.out.ints HO2.out.le.1 HO2.out.le.2).mono ?_
      rintro e w3 ⟨rfl, hb3⟩
      rw [Hl.out, Hd.out, Ht.out, HR.out]
      have HO3 := Lib.hid ((HO2.out.below hb3).alloc (.cells #[.int .i64 l, .int .i64 d, .int .i64 t] 27))
      have HB3 : Hid (Below w.heap.size w w3) := (HB2.out.alloc hz2 _).trans (hb3.mono (by simp; omega))
      have hz3 : w2.heap.size < w3.heap.size := by have := hb3.size; simp at this; omega
      have hblk := (Blk.new w2 27 #[.int .i64 l, .int .i64 d, .int .i64 t]).below hb3 (by simp)
      have HK := Lib.hid hblk
      have c0 : w3.cell? ⟨w2.heap.size, 0, none⟩ = some (.int .i64 l) := hblk.cell 0
      have c1 : w3.cell? ⟨w2.heap.size, 1, none⟩ = some (.int .i64 d) := hblk.cell 1
      have c2 : w3.cell? ⟨w2.heap.size, 2, none⟩ = some (.int .i64 t) := hblk.cell 2
      clear hb3 hblk
      have hle := HO1.out.le
      cases hR : R with
      | false =>
        go_wp2
        go_ret
        exact ⟨rfl, HB3.out.alloc (by omega) _⟩
      | true =>
        subst hR
        obtain ⟨e1, e2, e3⟩ := made_yes HR.out
        obtain ⟨hs, hv⟩ := (madeOk_iff _ _).1 HR.out
        obtain ⟨h16, hd0, hd1, hd2⟩ := leaves_digest hv
        obtain ⟨n, HN⟩ : ∃ n, Hid (zs.length = n) := ⟨_, rfl⟩
        obtain ⟨p, HP⟩ : ∃ p, Hid (publicOr s = p) := ⟨_, rfl⟩
        have hln : l = (n : Int) := by rw [← Hl.out, e1, HN.out]
        have HSG : Hid (signedB p l d t = true) := by
          show _ = _
          rw [← HP.out, ← Hl.out, ← Hd.out, ← Ht.out, e1, e2, e3]
          exact signed_made s _ _ hs (by omega) ⟨hd1, hd2⟩
        have HD0 := Lib.hid hd0
        have HS := Lib.hid hs
        have h16n : n ≤ 16 := by rw [← HN.out]; exact h16
        have HDZ : Hid (digestZ zs = d) := by show _ = _; rw [← Hd.out, e2]
        have HTZ : Hid (signZ s (msgZ n d) = t) := by show _ = _; rw [← Ht.out, e3, HN.out, HDZ.out]
        have hd3 : 0 ≤ d ∧ d < 991 := by rw [← HDZ.out]; exact ⟨hd1, hd2⟩
        have HD3 := Lib.hid hd3
        subst hln
        clear e1 e2 e3 hs hv h16 hd0 hd1 hd2 hz28 HSG hd3
        rw [HN.out] at hle ⊢
        by_cases hn0 : n = 0
        · subst hn0
          go_wp2
          go_ret
          exact ⟨rfl, HB3.out.alloc (by omega) _⟩
        · have hnb : ((n : Int) == 0) = false := by rw [beq_eq_false_iff_ne]; omega
          obtain ⟨k, HK1⟩ : ∃ k, Hid (len1 % n = k) := ⟨_, rfl⟩
          have hkn : k < n := by rw [← HK1.out]; exact Nat.mod_lt _ (by omega)
          have HKE : Hid ((len1 : Int) % (n : Int) = (k : Int)) := by show _ = _; rw [← HK1.out, Int.natCast_emod]
          have hkz : k < zs.length := by rw [HN.out]; exact hkn
          obtain ⟨hv0, hv1⟩ := HD0.out.at_ k hkz
          obtain ⟨q, HQ⟩ : ∃ q, Hid (len % 989 = q) := ⟨_, rfl⟩
          have HQE : Hid ((len : Int) % 989 = (q : Int)) := by show _ = _; rw [← HQ.out]; omega
          have HQM : Hid (q ≤ maxLen) := by show q ≤ maxLen; rw [← HQ.out]; unfold maxLen; omega
          obtain ⟨y, HY⟩ : ∃ y, Hid (otherZ (nth zs k) q = y) := ⟨_, rfl⟩
          have hy0 : 0 ≤ y ∧ y < 991 := by rw [← HY.out]; exact otherZ_bd _ _
          have hyn : y ≠ nth zs k := by rw [← HY.out]; exact otherZ_ne _ _
          have hch := digest_change zs k y (by rw [HN.out]; exact h16n) hkz HD0.out hy0 (fun e => hyn e.symm)
          have hds : Digs (zs.set k y) := HD0.out.set k hy0
          have hls : leavesB (zs.set k y) = true := leavesB_of (by rw [List.length_set, HN.out]; exact h16n) hds
          have hok : madeOk s (zs.set k y) = true := (madeOk_iff _ _).2 ⟨HS.out, hls⟩
          obtain ⟨e1, e2, e3⟩ := made_yes hok
          obtain ⟨_, _, g0, g1⟩ := leaves_digest hls
          obtain ⟨d2, HD2⟩ : ∃ d2, Hid (digestZ (zs.set k y) = d2) := ⟨_, rfl⟩
          rw [HD2.out, HDZ.out] at hch
          rw [HD2.out] at g0 g1 e2 e3
          obtain ⟨t2, HT2⟩ : ∃ t2, Hid (signZ s (msgZ n d2) = t2) := ⟨_, rfl⟩
          have hct : t2 ≠ t := by
            rw [← HT2.out, ← HTZ.out]
            exact sign_change HS.out HD3.out ⟨g0, g1⟩ hch
          rw [List.length_set, HN.out] at e1 e3
          rw [HT2.out] at e3
          have hcb : (d2 != d) = true := by rw [bne_iff_ne]; exact hch
          have hctb : (t2 != t) = true := by rw [bne_iff_ne]; exact hct
          have C : Hid (∀ (V : World) (b4 c4 base : Nat), OwnInts V base (some ⟨b4, 0, none⟩) c4 (zs.set k y) → Calls Try.prog 14 #[.int .i64 s, .slice (some ⟨b4, 0, none⟩) n c4] V fun e w' => e = .returned (.tuple #[headV n d2 t2, .bool true]) ∧ Below V.heap.size V w') := fun V b4 c4 base hV => by
            have := make_any s (zs.set k y) b4 0 c4 V hV.ints hV.le.1 hV.le.2
            rw [List.length_set, HN.out, e1, e2, e3, hok] at this
            exact this
          obtain ⟨W, HW⟩ : ∃ W, Hid (w3.alloc (.cells #[.int .i64 (n : Int), .int .i64 d, .int .i64 t] 27) = W) := ⟨_, rfl⟩
          have HZ3 : Hid (OwnInts W w.heap.size (some ⟨b, 0, none⟩) c zs) := by rw [← HW.out]; exact HO3.out
          have HWS : Hid (W.heap.size = w3.heap.size + 1) := by show _ = _; rw [← HW.out, World.size_alloc]
          have HNW : Hid (OwnInts (W.alloc (.cells #[] 3)) W.heap.size (some ⟨w3.heap.size + 1, 0, none⟩) 0 []) := by show OwnInts _ _ _ _ _; rw [← HWS.out]; exact OwnInts.new W
          have HBW : Hid (Below w.heap.size w W) := by rw [← HW.out]; exact HB3.out.alloc (by omega) _
          have hkb := HK.out.alloc (.cells #[.int .i64 (n : Int), .int .i64 d, .int .i64 t] 27)
          rw [HW.out] at hkb
          have HKW := Lib.hid hkb
          have hki0 : (0 : Int) ≤ (k : Int) := by omega
          have hki1 : (k : Int) < (n : Int) := by omega
          have hbw := (HZ3.out.ints.lt (by omega)).1
          have HKZ := Lib.hid hkz
          clear hch hct hyn hkz hkb hds hls hok e1 e2 e3
          go_wp2_with (at_builtin; rw [HW.out]; refine wpList_app_ints rfl (.tmp 70) (.tmp 71) rfl _ W.heap.size _ _ [] rfl _ _ zs (by rw [HN.out]; rfl) HNW.out (HZ3.out.ints.allocS _) (by rw [HN.out]; simp; omega) (by simp) (by simp) ?_; intro v w4 hA; rw [List.nil_append] at hA; obtain ⟨⟨A4, c4, rfl, hown4⟩, hg4, hb4⟩ := hA; obtain ⟨b4, hA4⟩ := hown4.some_ (by rw [HN.out]; omega); subst hA4; have HO4 := Lib.hid hown4; have HB4 : Hid (Below W.heap.size W w4) := ((Below.refl _ W).alloc (Nat.le_refl _) _).trans hb4; have hb4f := hown4.far (n := 0) b4 rfl; have hc4 : w4.cell? ⟨b4, k, none⟩ = some (.int .i64 (nth zs k)) := (by have h1 := (hown4.ints.lt (by rw [HN.out]; omega)).2 k HKZ.out; rw [Nat.zero_add] at h1; exact h1); have hf4 : w4.frozen? ⟨b4, k, none⟩ = false := World.ownsRow.frozenAt hown4 k; clear hown4 hg4 hb4; rw [HN.out, HKE.out])
          rw [HQE.out]
          refine (other_any _ _ _ hv0 hv1 HQM.out).mono ?_
          rintro e w' ⟨rfl, rfl⟩
          rw [HY.out]
          have HS4 : Hid (OwnInts (w4.setCell ⟨b4, k, none⟩ (.int .i64 y)) W.heap.size (some ⟨b4, 0, none⟩) c4 (zs.set k y)) := HO4.out.stored k y
          have HBS : Hid (Below W.heap.size W (w4.setCell ⟨b4, k, none⟩ (.int .i64 y))) := HB4.out.setCell (p := ⟨b4, k, none⟩) hb4f _
          go_wp2_with fail
          refine (C.out _ b4 c4 _ HS4.out).mono ?_
          rintro e w6 ⟨rfl, hb6⟩
          have HB6 : Hid (Below W.heap.size W w6) := HBS.out.trans (hb6.mono HBS.out.size)
          clear hb6 hc4 hf4 c0 c1 c2
          have hk6 := HKW.out.below HB6.out HKW.out.lt
          have hz6 : w2.heap.size < w6.heap.size := hk6.lt
          have c0 : w6.cell? ⟨w2.heap.size, 0, none⟩ = some (.int .i64 (n : Int)) := hk6.cell 0
          have c1 : w6.cell? ⟨w2.heap.size, 1, none⟩ = some (.int .i64 d) := hk6.cell 1
          have c2 : w6.cell? ⟨w2.heap.size, 2, none⟩ = some (.int .i64 t) := hk6.cell 2
          clear hk6
          go_wp2
          go_ret
          exact ⟨rfl, (HBW.out.trans (HB6.out.mono HBW.out.size)).alloc (by omega) _⟩
    · have h9 : 1048576 < len1 := by omega
      clear hlen1
      go_enter Try.func9, Try.ntmps9
      go_wp2
      go_ret
      exact ⟨rfl, Below.refl _ _⟩
  · have h9 : 1048576 < len := by omega
    clear hlen
    go_enter Try.func9, Try.ntmps9
    go_wp2
    go_ret
    exact ⟨rfl, Below.refl _ _⟩

end Go.Proofs.Ytgckhdfhngbejaa
