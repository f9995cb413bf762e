/- The walk of FnHeadKey: it returns true and changes nothing that was there. Condition: the codes' bytes lie in memory. -/
import Derived.Test.YtgckhdfhngbejaaMade
import Derived.Test.YtgckhdfhngbejaaDrawSecret
import Derived.Test.YtgckhdfhngbejaaIn
namespace Go.Proofs.Ytgckhdfhngbejaa
open Go.RowKit
set_option linter.unusedVariables false

set_option maxHeartbeats 4000000 in
set_option maxRecDepth 100000 in
theorem walkHeadKey (A : Option Addr) (len cap : Nat) (A1 : Option Addr) (len1 cap1 : Nat) (w : World) (hI : In w A len cap) (hI1 : In w A1 len1 cap1) :
    Calls Try.prog 4 #[.slice A len cap, .slice A1 len1 cap1] w fun e w' => e = .returned (.bool true) ∧ Below w.heap.size w w' := by
  have hm := hI.len_le
  have hm1 := hI1.len_le
  unfold maxLen at hm hm1
  have HI := Lib.hid hI
  clear hI hI1
  by_cases hlen : len ≤ 1048576
  · by_cases hlen1 : len1 ≤ 1048576
    · go_enter Try.func4, Try.ntmps4
      go_wp2_with fail
      refine (drawmake_any A len cap _ HI.out).mono ?_
      rintro e w1 ⟨b, c, zs, s, rfl, hz28, hnear, hs1, hs2, hown1, hb1⟩
      have HO1 := Lib.hid hown1
      have HB1 := Lib.hid hb1
      clear hown1 hb1 hnear
      obtain ⟨l, Hl⟩ : ∃ l, Hid (madeL s zs = l) := ⟨_, rfl⟩
      obtain ⟨d, Hd⟩ : ∃ d, Hid (madeD s zs = d) := ⟨_, rfl⟩
      obtain ⟨t, Ht⟩ : ∃ t, Hid (madeS s zs = t) := ⟨_, rfl⟩
      obtain ⟨R, HR⟩ : ∃ R, Hid (madeOk s zs = R) := ⟨_, rfl⟩
      go_wp2_with fail
      refine (make_any s zs b 0 c _ HO1.out.ints HO1.out.le.1 HO1.out.le.2).mono ?_
      rintro e w2 ⟨rfl, hb2⟩
      rw [Hl.out, Hd.out, Ht.out, HR.out]
      have HO2 := Lib.hid ((HO1.out.below hb2).alloc (.cells #[.int .i64 l, .int .i64 d, .int .i64 t] 27))
      have HB2 : Hid (Below w.heap.size w w2) := HB1.out.trans (hb2.mono HB1.out.size)
      clear hb2
      have hz2 : w.heap.size ≤ w2.heap.size := HB2.out.size
      go_wp2_with fail
      refine (smake_any s zs b 0 c _ HO2.out.ints HO2.out.le.1 HO2.out.le.2).mono ?_
      rintro e w3 ⟨rfl, hb3⟩
      rw [Hl.out, Hd.out, Ht.out, HR.out]
      have HO3 := Lib.hid ((HO2.out.below hb3).alloc (.cells #[.int .i64 l, .int .i64 d, .int .i64 t] 27))
      have HB3 : Hid (Below w.heap.size w w3) := (HB2.out.alloc hz2 _).trans (hb3.mono (by simp; omega))
      have hz3 : w2.heap.size < w3.heap.size := by have := hb3.size; simp at this; omega
      have hblk := (Blk.new w2 27 #[.int .i64 l, .int .i64 d, .int .i64 t]).below hb3 (by simp)
      have HK := Lib.hid hblk
      have c0 : w3.cell? ⟨w2.heap.size, 0, none⟩ = some (.int .i64 l) := hblk.cell 0
      have c1 : w3.cell? ⟨w2.heap.size, 1, none⟩ = some (.int .i64 d) := hblk.cell 1
      have c2 : w3.cell? ⟨w2.heap.size, 2, none⟩ = some (.int .i64 t) := hblk.cell 2
      clear hb3 hblk
      have hle := HO1.out.le
      cases hR : R with
      | false =>
        go_wp2
        go_ret
        exact ⟨rfl, HB3.out.alloc (by omega) _⟩
      | true =>
        subst hR
        obtain ⟨e1, e2, e3⟩ := made_yes HR.out
        obtain ⟨hs, hv⟩ := (madeOk_iff _ _).1 HR.out
        obtain ⟨h16, hd0, hd1, hd2⟩ := leaves_digest hv
        obtain ⟨n, HN⟩ : ∃ n, Hid (zs.length = n) := ⟨_, rfl⟩
        obtain ⟨p, HP⟩ : ∃ p, Hid (publicOr s = p) := ⟨_, rfl⟩
        have hln : l = (n : Int) := by rw [← Hl.out, e1, HN.out]
        have HSG : Hid (signedB p l d t = true) := by
          show _ = _
          rw [← HP.out, ← Hl.out, ← Hd.out, ← Ht.out, e1, e2, e3]
          exact signed_made s _ _ hs (by omega) ⟨hd1, hd2⟩
        have HDD : Hid (digestOr zs = d) := by show _ = _; unfold digestOr; rw [hv, ← Hd.out, e2]; rfl
        subst hln
        clear e1 e2 e3 hs hv h16 hd0 hd1 hd2 hz28
        have hyn := nextZ_ne p len1
        obtain ⟨hy0, hy1⟩ := nextZ_bd p len1
        have hpb := publicOr_any s
        rw [HP.out] at hpb
        obtain ⟨p0, p1⟩ := hpb
        obtain ⟨y, HY⟩ : ∃ y, Hid (nextZ p len1 = y) := ⟨_, rfl⟩
        rw [HY.out] at hyn hy0 hy1
        have hyb : (y == p) = false := by rw [beq_eq_false_iff_ne]; exact hyn
        have HSN : Hid (signedB y n d t = false) := signed_key HSG.out hyn
        clear hyn
        rw [HN.out] at hle ⊢
        go_wp2_with fail
        refine (public_any s _).mono ?_
        rintro e w' ⟨rfl, rfl⟩
        rw [HP.out]
        go_wp2_with fail
        rw [show 1 + (p + (len1 : Int) % 995) % 996 = y from HY.out]
        refine (public_any s _).mono ?_
        rintro e w' ⟨rfl, rfl⟩
        rw [HP.out]
        go_wp2_with fail
        refine (check_any y n d t _).mono ?_
        rintro e w5 ⟨rfl, hb5⟩
        rw [HSN.out]
        have HB5 : Hid (Below w.heap.size w w5) := (HB3.out.alloc (by omega) _).trans (hb5.mono (by simp; omega))
        clear hb5
        go_wp2
        go_ret
        exact ⟨rfl, HB5.out⟩
    · have h9 : 1048576 < len1 := by omega
      clear hlen1
      go_enter Try.func4, Try.ntmps4
      go_wp2
      go_ret
      exact ⟨rfl, Below.refl _ _⟩
  · have h9 : 1048576 < len := by omega
    clear hlen
    go_enter Try.func4, Try.ntmps4
    go_wp2
    go_ret
    exact ⟨rfl, Below.refl _ _⟩

end Go.Proofs.Ytgckhdfhngbejaa
