/- The walk of FnHead: it returns true and changes nothing that was there. Condition: the codes' bytes lie in memory. -/
import Derived.Test.YtgckhdfhngbejaaMade
import Derived.Test.YtgckhdfhngbejaaDrawSecret
import Derived.Test.YtgckhdfhngbejaaIn
namespace Go.Proofs.Ytgckhdfhngbejaa
open Go.RowKit
set_option linter.unusedVariables false

set_option maxHeartbeats 4000000 in
set_option maxRecDepth 100000 in
theorem walkHead (A : Option Addr) (len cap : Nat) (w : World) (hI : In w A len cap) :
    Calls Try.prog 3 #[.slice A len cap] w fun e w' => e = .returned (.bool true) ∧ Below w.heap.size w w' := by
  have hm := hI.len_le
  unfold maxLen at hm
  have HI := Lib.hid hI
  clear hI
  by_cases hlen : len ≤ 1048576
  · go_enter Try.func3, Try.ntmps3
    go_wp2_with fail
    refine (drawmake_any A len cap _ HI.out).mono ?_
    rintro e w1 ⟨b, c, zs, s, rfl, hz28, hnear, hs1, hs2, hown1, hb1⟩
    have HO1 := Lib.hid hown1
    have HB1 := Lib.hid hb1
    clear hown1 hb1 hnear
    obtain ⟨l, Hl⟩ : ∃ l, Hid (madeL s zs = l) := ⟨_, rfl⟩
    obtain ⟨d, Hd⟩ : ∃ d, Hid (madeD s zs = d) := ⟨_, rfl⟩
    obtain ⟨t, Ht⟩ : ∃ t, Hid (madeS s zs = t) := ⟨_, rfl⟩
    obtain ⟨R, HR⟩ : ∃ R, Hid (madeOk s zs = R) := ⟨_, rfl⟩
    go_wp2_with fail
    refine (make_any s zs b 0 c _ HO1.out.ints HO1.out.le.1 HO1.out.le.2).mono ?_
    rintro e w2 ⟨rfl, hb2⟩
    rw [Hl.out, Hd.out, Ht.out, HR.out]
    have HO2 := Lib.hid ((HO1.out.below hb2).alloc (.cells #[.int .i64 l, .int .i64 d, .int .i64 t] 27))
    have HB2 : Hid (Below w.heap.size w w2) := HB1.out.trans (hb2.mono HB1.out.size)
    clear hb2
    have hz2 : w.heap.size ≤ w2.heap.size := HB2.out.size
    go_wp2_with fail
    refine (smake_any s zs b 0 c _ HO2.out.ints HO2.out.le.1 HO2.out.le.2).mono ?_
    rintro e w3 ⟨rfl, hb3⟩
    rw [Hl.out, Hd.out, Ht.out, HR.out]
    have HO3 := Lib.hid ((HO2.out.below hb3).alloc (.cells #[.int .i64 l, .int .i64 d, .int .i64 t] 27))
    have HB3 : Hid (Below w.heap.size w w3) := (HB2.out.alloc hz2 _).trans (hb3.mono (by simp; omega))
    have hz3 : w2.heap.size < w3.heap.size := by have := hb3.size; simp at this; omega
    have hblk := (Blk.new w2 27 #[.int .i64 l, .int .i64 d, .int .i64 t]).below hb3 (by simp)
    have HK := Lib.hid hblk
    have c0 : w3.cell? ⟨w2.heap.size, 0, none⟩ = some (.int .i64 l) := hblk.cell 0
    have c1 : w3.cell? ⟨w2.heap.size, 1, none⟩ = some (.int .i64 d) := hblk.cell 1
    have c2 : w3.cell? ⟨w2.heap.size, 2, none⟩ = some (.int .i64 t) := hblk.cell 2
    clear hb3 hblk
    have hle := HO1.out.le
    cases hR : R with
    | false =>
      go_wp2
      go_ret
      exact ⟨rfl, HB3.out.alloc (by omega) _⟩
    | true =>
      subst hR
      obtain ⟨e1, e2, e3⟩ := made_yes HR.out
      obtain ⟨hs, hv⟩ := (madeOk_iff _ _).1 HR.out
      obtain ⟨h16, hd0, hd1, hd2⟩ := leaves_digest hv
      obtain ⟨n, HN⟩ : ∃ n, Hid (zs.length = n) := ⟨_, rfl⟩
      obtain ⟨p, HP⟩ : ∃ p, Hid (publicOr s = p) := ⟨_, rfl⟩
      have hln : l = (n : Int) := by rw [← Hl.out, e1, HN.out]
      have HSG : Hid (signedB p l d t = true) := by
        show _ = _
        rw [← HP.out, ← Hl.out, ← Hd.out, ← Ht.out, e1, e2, e3]
        exact signed_made s _ _ hs (by omega) ⟨hd1, hd2⟩
      have HDD : Hid (digestOr zs = d) := by show _ = _; unfold digestOr; rw [hv, ← Hd.out, e2]; rfl
      subst hln
      clear e1 e2 e3 hs hv h16 hd0 hd1 hd2 hz28
      obtain ⟨V, HV⟩ : ∃ V, Hid (w3.alloc (.cells #[.int .i64 (n : Int), .int .i64 d, .int .i64 t] 27) = V) := ⟨_, rfl⟩
      have HO4 : Hid (OwnInts V w.heap.size (some ⟨b, 0, none⟩) c zs) := by rw [← HV.out]; exact HO3.out
      have HB4 : Hid (Below w.heap.size w V) := by rw [← HV.out]; exact HB3.out.alloc (by omega) _
      have hz4 : w2.heap.size < V.heap.size := by rw [← HV.out]; simp; omega
      have hblk := HK.out.alloc (.cells #[.int .i64 (n : Int), .int .i64 d, .int .i64 t] 27)
      rw [HV.out] at hblk
      have b0 : V.cell? ⟨w2.heap.size, 0, none⟩ = some (.int .i64 (n : Int)) := hblk.cell 0
      have b1 : V.cell? ⟨w2.heap.size, 1, none⟩ = some (.int .i64 d) := hblk.cell 1
      have b2 : V.cell? ⟨w2.heap.size, 2, none⟩ = some (.int .i64 t) := hblk.cell 2
      clear hblk
      have C : Hid (∀ W : World, Below V.heap.size V W → Calls Try.prog 18 #[.slice (some ⟨b, 0, none⟩) n c] W fun e w' => e = .returned (.int .i64 d) ∧ Below W.heap.size W w') := fun W hW => by
        have h := HO4.out.below hW
        have := digest_any zs b 0 c W h.ints h.le.1 h.le.2
        rw [HN.out, HDD.out] at this
        exact this
      rw [HN.out] at hle ⊢
      go_wp2_with fail
      rw [HV.out]
      clear c0 c1 c2
      go_region_held3 (fun w' => w'.cell? ⟨w2.heap.size, 0, none⟩ = some (.int .i64 (n : Int)) ∧ w'.cell? ⟨w2.heap.size, 1, none⟩ = some (.int .i64 d) ∧ w'.cell? ⟨w2.heap.size, 2, none⟩ = some (.int .i64 t)) (go_keep)
        (first
          | (go_at_call 17; (with_reducible refine (public_any s _).mono ?_); rintro e w' ⟨rfl, rfl⟩; rw [HP.out])
          | (go_at_call 16; (with_reducible refine (check_any p n d t _).mono ?_); rintro e w5 ⟨rfl, hb5⟩; rw [HSG.out]; have HB5 : Hid (Below V.heap.size V w5) := below_drew_l hb5; have f0 : w5.cell? ⟨w2.heap.size, 0, none⟩ = some (.int .i64 (n : Int)) := ((HB5.out.cell (p := ⟨w2.heap.size, 0, none⟩) hz4).trans b0); have f1 : w5.cell? ⟨w2.heap.size, 1, none⟩ = some (.int .i64 d) := ((HB5.out.cell (p := ⟨w2.heap.size, 1, none⟩) hz4).trans b1); have f2 : w5.cell? ⟨w2.heap.size, 2, none⟩ = some (.int .i64 t) := ((HB5.out.cell (p := ⟨w2.heap.size, 2, none⟩) hz4).trans b2); clear hb5)
          | (go_at_call 18; (with_reducible refine (C.out _ HB5.out).mono ?_); rintro e w6 ⟨rfl, hb6⟩; have HB6 := Lib.hid hb6; have g0 : w6.cell? ⟨w2.heap.size, 0, none⟩ = some (.int .i64 (n : Int)) := ((HB6.out.cell (p := ⟨w2.heap.size, 0, none⟩) (Nat.lt_of_lt_of_le hz4 HB5.out.size)).trans f0); have g1 : w6.cell? ⟨w2.heap.size, 1, none⟩ = some (.int .i64 d) := ((HB6.out.cell (p := ⟨w2.heap.size, 1, none⟩) (Nat.lt_of_lt_of_le hz4 HB5.out.size)).trans f1); have g2 : w6.cell? ⟨w2.heap.size, 2, none⟩ = some (.int .i64 t) := ((HB6.out.cell (p := ⟨w2.heap.size, 2, none⟩) (Nat.lt_of_lt_of_le hz4 HB5.out.size)).trans f2); clear hb6))
      go_wp2
      go_ret
      exact ⟨rfl, HB4.out.trans ((HB5.out.trans (HB6.out.mono HB5.out.size)).mono HB4.out.size)⟩
  · have h9 : 1048576 < len := by omega
    clear hlen
    go_enter Try.func3, Try.ntmps3
    go_wp2
    go_ret
    exact ⟨rfl, Below.refl _ _⟩

end Go.Proofs.Ytgckhdfhngbejaa
