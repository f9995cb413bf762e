/- Contract of DrawViewGet: pairs in memory of the call's own, and a key; nothing that was there is changed. Condition: the code's bytes lie in memory. -/
import Derived.Test.YteckmbmpellkgaaPairV
import Derived.Test.YteckmbmpellkgaaBaseC
import Derived.Test.YteckmbmpellkgaaBaseA
import Derived.Deep.DeepCutAuto
namespace Go.Proofs.Yteckmbmpellkgaa
open Go.RowKit
set_option linter.unusedVariables false

def PvDrawn (w : World) (e : Ending) (w' : World) : Prop :=
  ∃ X c xs, ∃ (key : Int), e = .returned (.tuple #[.slice X xs.length c, .int .i64 key]) ∧ OwnRow VK w' w.heap.size X c xs ∧ xs.length ≤ 11 ∧ Below w.heap.size w w'
set_option maxHeartbeats 4000000 in
set_option maxRecDepth 100000 in
theorem drawPv_any (A : Option Addr) (len cap : Nat) (w : World) (hI : In w A len cap) :
    Calls Try.prog 6 #[.slice A len cap] w (PvDrawn w) := by
  obtain ⟨i0, zz, hi0, hz0, hz1, hz2, hz3⟩ := pv_app_info
  have HI0 := Lib.hid (And.intro hi0 (And.intro hz0 (And.intro hz1 (And.intro hz2 hz3))))
  clear hi0 hz0 hz1 hz2 hz3
  have HI := Lib.hid hI
  clear hI
  go_enter Try.func6, Try.ntmps6
  go_wp2_with fail
  refine (open_any A len cap _ HI.out).mono ?_
  rintro e w1 ⟨len', cap', rfl, hR1, hb1⟩
  have hz1 : w.heap.size < w1.heap.size := hR1.lt
  obtain ⟨w2, HW2⟩ : ∃ U, Hid (w1.alloc (.cells #[] 29) = U) := ⟨_, rfl⟩
  have HR2 : Hid (Rd w2 w.heap.size w.heap.size A len' cap' 0) := by rw [← HW2.out]; exact hR1.alloc _
  have HO2 : Hid (OwnRow VK w2 w1.heap.size (some ⟨w1.heap.size, 0, none⟩) 0 []) := by rw [← HW2.out]; exact OwnRow.new VK w1
  have HB2 : Hid (Below w.heap.size w w2) := by rw [← HW2.out]; exact hb1.alloc hb1.size _
  have HZ2 : Hid (w1.heap.size ≤ w2.heap.size) := by rw [← HW2.out]; show _ ≤ (w1.alloc _).heap.size; rw [World.size_alloc]; omega
  clear hR1 hb1
  go_upto_region 3 with fail
  rw [HW2.out]
  go_wp2
  go_loopw [5, 6] (fun s i wr => ∃ (k m x q : Nat) (X : Option Addr) (xs : List VD), k ≤ 10 ∧ m ≤ k ∧ s = .slice X m x ∧ i = .int .i64 (k : Int) ∧ q ≤ 2 * k ∧ Hid (xs.length = m) ∧ Hid (OwnRow VK wr w1.heap.size X x xs) ∧ Hid (Rd wr w.heap.size w.heap.size A len' cap' q) ∧ Hid (Below w.heap.size w wr) ∧ Hid (w1.heap.size ≤ wr.heap.size)) (fun _ i _ => 10 - (intOf i).toNat)
  case atStart => exact ⟨0, 0, 0, 0, _, [], Nat.zero_le _, Nat.le_refl _, rfl, rfl, Nat.zero_le _, rfl, HO2, HR2, HB2, HZ2⟩
  case round =>
    obtain ⟨k, m, x, q, X, xs, hk, hm, rfl, rfl, hq, HN, HOr, HRr, HBr, HZr⟩ := hrel
    by_cases hlt : k < 10
    · have hki : (k : Int) < 10 := by omega
      go_wp2_with fail
      refine (pick_any 2 HRr.out (by omega) (by omega) (by omega)).mono ?_
      rintro e wa ⟨z, hz, rfl, hRa, hga, hza⟩
      have HRa := Lib.hid hRa
      have HOa := Lib.hid (HOr.out.keep hga (fun i hi => by injection hi with hi; omega))
      have HBa : Hid (Below w.heap.size w wa) := HBr.out.grown hga HBr.out.size (fun i hi => by injection hi with hi; omega)
      have HZa : Hid (w1.heap.size ≤ wa.heap.size) := Nat.le_trans HZr.out hga.size
      clear hRa hga hza
      by_cases hz0 : z = 0
      · subst hz0
        go_wp2_with fail
        refine (pick_any 100 HRa.out (by omega) (by omega) (by omega)).mono ?_
        rintro e wb ⟨t, ht, rfl, hRb, hgb, hzb⟩
        have HRb := Lib.hid hRb
        have HOb := Lib.hid (HOa.out.keep hgb (fun i hi => by injection hi with hi; omega))
        have HBb : Hid (Below w.heap.size w wb) := HBa.out.grown hgb HBa.out.size (fun i hi => by injection hi with hi; omega)
        have hob : w1.heap.size ≤ wb.heap.size := Nat.le_trans HZa.out hgb.size
        clear hRb hgb hzb
        have hgl := HRb.out.lt
        go_wp2_with (at_builtin; refine wpList_app_row (K := VK) Try.underlying23 HI0.out.1 HI0.out.2.1 HI0.out.2.2.1 HI0.out.2.2.2.1 HI0.out.2.2.2.2 (by decide) rfl (.tmp 17) (.tmp 22) rfl _ w1.heap.size X x xs (by rw [HN.out]; rfl) _ _ [(⟨(k : Int), (t : Int)⟩ : VD)] rfl (HOb.out.alloc _) (one_newR VK _ ⟨(k : Int), (t : Int)⟩ _) (by rw [HN.out]; show m + 1 ≤ 1000000; omega) (by simp; omega) (fun e => by cases e) ?_; intro v w7 hA; obtain ⟨Y, y, rfl, ho7⟩ := hA.own; have hgc := hA.grown; have hbc := hA.below; have HL7 : Hid ((xs ++ [(⟨(k : Int), (t : Int)⟩ : VD)]).length = m + 1) := (by show _ = _; rw [List.length_append, HN.out]; rfl); rw [HL7.out])
        have HO7 := Lib.hid ho7
        have HR7 : Hid (Rd w7 w.heap.size w.heap.size A len' cap' (q + 1 + 1)) := (HRb.out.alloc _).grown hgc (fun i hi => by have := HOb.out.far (n := xs.length) i hi; omega)
        have HB7 : Hid (Below w.heap.size w w7) := (HBb.out.alloc HBb.out.size _).trans (hbc.mono (by omega))
        have HZ7 : Hid (w1.heap.size ≤ w7.heap.size) := Nat.le_trans hob (Nat.le_trans (by simp) hbc.size)
        clear hA ho7 hgc hbc
        go_roundw
        case rel => exact ⟨k + 1, m + 1, y, q + 1 + 1, Y, _, by omega, by omega, rfl, by go_num, by omega, HL7, HO7, HR7, HB7, HZ7⟩
        case measure => simp [intOf]; omega
      · have hzi : ((z : Int) == 0) = false := by rw [beq_eq_false_iff_ne]; omega
        go_wp2
        go_roundw
        case rel => exact ⟨k + 1, m, x, q + 1, X, xs, by omega, by omega, rfl, by go_num, by omega, HN, HOa, HRa, HBa, HZa⟩
        case measure => simp [intOf]; omega
    · have hk10 : k = 10 := by omega
      subst hk10
      go_wp2_with fail
      refine (pick_any 16 HRr.out (by omega) (by omega) (by omega)).mono ?_
      rintro e wa ⟨z, hz, rfl, hRa, hga, hza⟩
      have HRa := Lib.hid hRa
      have HOa := Lib.hid (HOr.out.keep hga (fun i hi => by injection hi with hi; omega))
      have HBa : Hid (Below w.heap.size w wa) := HBr.out.grown hga HBr.out.size (fun i hi => by injection hi with hi; omega)
      have HZa : Hid (w1.heap.size ≤ wa.heap.size) := Nat.le_trans HZr.out hga.size
      clear hRa hga hza
      by_cases hz0 : z = 0
      · subst hz0
        go_wp2_with fail
        refine (pick_any 10 HRa.out (by omega) (by omega) (by omega)).mono ?_
        rintro e wb ⟨t, ht, rfl, hRb, hgb, hzb⟩
        have HRb := Lib.hid hRb
        have HOb := Lib.hid (HOa.out.keep hgb (fun i hi => by injection hi with hi; omega))
        have HBb : Hid (Below w.heap.size w wb) := HBa.out.grown hgb HBa.out.size (fun i hi => by injection hi with hi; omega)
        have hob : w1.heap.size ≤ wb.heap.size := Nat.le_trans HZa.out hgb.size
        clear hRb hgb hzb
        have hgl := HRb.out.lt
        go_wp2_with (at_builtin; refine wpList_app_row (K := VK) Try.underlying23 HI0.out.1 HI0.out.2.1 HI0.out.2.2.1 HI0.out.2.2.2.1 HI0.out.2.2.2.2 (by decide) rfl (.tmp 27) (.tmp 31) rfl _ w1.heap.size X x xs (by rw [HN.out]; rfl) _ _ [(⟨(t : Int), 0⟩ : VD)] rfl (HOb.out.alloc _) (one_newR VK _ ⟨(t : Int), 0⟩ _) (by rw [HN.out]; show m + 1 ≤ 1000000; omega) (by simp; omega) (fun e => by cases e) ?_; intro v w7 hA; obtain ⟨Y, y, rfl, ho7⟩ := hA.own; have hgc := hA.grown; have hbc := hA.below; have HL7 : Hid ((xs ++ [(⟨(t : Int), 0⟩ : VD)]).length = m + 1) := (by show _ = _; rw [List.length_append, HN.out]; rfl); rw [HL7.out])
        have HO7 := Lib.hid ho7
        have HR7 : Hid (Rd w7 w.heap.size w.heap.size A len' cap' (q + 1 + 1)) := (HRb.out.alloc _).grown hgc (fun i hi => by have := HOb.out.far (n := xs.length) i hi; omega)
        have HB7 : Hid (Below w.heap.size w w7) := (HBb.out.alloc HBb.out.size _).trans (hbc.mono (by omega))
        clear hA ho7 hgc hbc
        go_wp2_with fail
        refine (pick_any 10 HR7.out (by omega) (by omega) (by omega)).mono ?_
        rintro e wc ⟨u, hu, rfl, hRc, hgc, hzc⟩
        have HOc := Lib.hid (HO7.out.keep hgc (fun i hi => by injection hi with hi; omega))
        have HBc : Hid (Below w.heap.size w wc) := HB7.out.grown hgc HB7.out.size (fun i hi => by injection hi with hi; omega)
        clear hRc hgc hzc
        go_wp2
        go_ret2
        exact ⟨Y, y, _, _, by rw [HL7.out]; rfl, HOc.out.base_le (by omega), by rw [HL7.out]; omega, HBc.out⟩
      · have hzi : ((z : Int) == 0) = false := by rw [beq_eq_false_iff_ne]; omega
        go_wp2_with fail
        refine (pick_any 10 HRa.out (by omega) (by omega) (by omega)).mono ?_
        rintro e wc ⟨u, hu, rfl, hRc, hgc, hzc⟩
        have HOc := Lib.hid (HOa.out.keep hgc (fun i hi => by injection hi with hi; omega))
        have HBc : Hid (Below w.heap.size w wc) := HBa.out.grown hgc HBa.out.size (fun i hi => by injection hi with hi; omega)
        clear hRc hgc hzc
        go_wp2
        go_ret2
        exact ⟨X, x, xs, _, by rw [HN.out]; rfl, HOc.out.base_le (by omega), by rw [HN.out]; omega, HBc.out⟩

end Go.Proofs.Yteckmbmpellkgaa
