/- Contracts of the draws of directories. Condition: the code's bytes lie in memory. -/
import Derived.Test.YteceamnmcningaaSDirPut
import Derived.Test.YteceamnmcningaaBaseC
import Derived.Test.YteceamnmcningaaBaseA
namespace Go.Proofs.Yteceamnmcningaa
open Go.RowKit
set_option linter.unusedVariables false

theorem grownL_set {w W : World} {row : Option Nat} (h : w.grownBy W row) (p : Addr) (hp : w.heap.size ≤ p.block) (v : Value) : w.grownBy (W.setCell p v) row :=
  ⟨h.os, h.tape, h.output, by simpa using h.size, fun i hi hn => (Below.heap_setCell W p v i (by omega)).trans (h.block i hi hn)⟩
def LisDrawn (w : World) (B g : Nat) (A : Option Addr) (len cap p : Nat) (e : Ending) (w' : World) : Prop :=
  ∃ (X : Option Addr) (c : Nat) (xs : List LD) (p' : Nat), e = .returned (.slice X xs.length c) ∧ OwnRow LK w' w.heap.size X c xs ∧ xs.length ≤ 9 ∧ p' ≤ p + 60 ∧ Rd w' B g A len cap p' ∧ w.grownBy w' (some g)
set_option maxHeartbeats 8000000 in
set_option maxRecDepth 100000 in
theorem drawlis_any {B g len cap p : Nat} {A : Option Addr} {w : World} (hR : Rd w B g A len cap p) (hp : p ≤ 90000) :
    Calls Try.prog 31 #[.pointer (some ⟨g, 0, none⟩)] w (LisDrawn w B g A len cap p) := by
  obtain ⟨i0, zz, hi0, hz0, hz1, hz2, hz3⟩ := lis_app_info
  have HI0 := Lib.hid (And.intro hi0 (And.intro hz0 (And.intro hz1 (And.intro hz2 hz3))))
  clear hi0 hz0 hz1 hz2 hz3
  have hB := hR.big
  have hgl := hR.lt
  obtain ⟨w0, HW⟩ : ∃ W, Hid (w.alloc (.cells #[] 33) = W) := ⟨_, rfl⟩
  have HR0 : Hid (Rd w0 B g A len cap p) := by rw [← HW.out]; exact hR.alloc _
  have HO0 : Hid (OwnRow LK w0 w.heap.size (some ⟨w.heap.size, 0, none⟩) 0 []) := by rw [← HW.out]; exact OwnRow.new LK w
  have HG0 : Hid (w.grownBy w0 (some g)) := by rw [← HW.out]; exact grown_of_alloc w _ _
  clear hR
  go_enter Try.func31, Try.ntmps31
  go_upto_region 2 with fail
  rw [HW.out]
  go_wp2_with fail
  refine (pick_any 14 HR0.out (by omega) (by omega) (by omega)).mono ?_
  rintro e w1 ⟨n, hn, rfl, hR1, hg1, hz1⟩
  have HR1 := Lib.hid hR1
  have HO1 := Lib.hid (HO0.out.keep hg1 (fun k hk => by injection hk with hk; omega))
  have HG1 : Hid (w.grownBy w1 (some g)) := World.grownBy.trans HG0.out hg1
  clear hR1 hg1 hz1
  go_wp2
  go_loopw [3, 5] (fun s i wr => ∃ (k m x q : Nat) (X : Option Addr) (xs : List LD), k ≤ n ∧ m ≤ 8 ∧ s = .slice X m x ∧ i = .int .i64 (k : Int) ∧ q ≤ p + 1 + 2 * k ∧ Hid (xs.length = m) ∧ Hid (OwnRow LK wr w.heap.size X x xs) ∧ Hid (Rd wr B g A len cap q) ∧ Hid (w.grownBy wr (some g))) (fun _ i _ => n - (intOf i).toNat)
  case atStart => exact ⟨0, 0, 0, p + 1, _, [], Nat.zero_le _, by omega, rfl, rfl, by omega, rfl, HO1, HR1, HG1⟩
  case round =>
    obtain ⟨k, m, x, q, X, xs, hk, hm, rfl, rfl, hq, HN, HOr, HRr, HGr⟩ := hrel
    by_cases hlt : k < n
    · have hki : (k : Int) < (n : Int) := by omega
      go_wp2_with fail
      refine (pick_any 20 HRr.out (by omega) (by omega) (by omega)).mono ?_
      rintro e wa ⟨z, hz, rfl, hRa, hga, hza⟩
      have HRa := Lib.hid hRa
      have HOa := Lib.hid (HOr.out.keep hga (fun k hk => by injection hk with hk; omega))
      have HGa : Hid (w.grownBy wa (some g)) := World.grownBy.trans HGr.out hga
      clear hRa hga hza
      go_wp2_with fail
      refine (pick_any 25 HRa.out (by omega) (by omega) (by omega)).mono ?_
      rintro e wb ⟨t, ht, rfl, hRb, hgb, hzb⟩
      have HRb := Lib.hid hRb
      have HOb := Lib.hid (HOa.out.keep hgb (fun k hk => by injection hk with hk; omega))
      have HGb : Hid (w.grownBy wb (some g)) := World.grownBy.trans HGa.out hgb
      clear hRb hgb hzb
      have hw10 : IntKind.i64.wrap (10 + (t : Int)) = 10 + (t : Int) := IntWalk.i64_in _ (by omega)
      obtain ⟨nw, HNW⟩ : ∃ v, Hid (10 + (t : Int) = v) := ⟨_, rfl⟩
      rw [HNW.out] at hw10
      have HCA := Lib.hid (sdirPut_any X x xs (z : Int) nw wb (own_lis HOb.out) HN.out)
      have hwb : w.heap.size ≤ wb.heap.size := HGb.out.size
      go_wp2_with fail
      rw [HNW.out]
      try rw [hw10]
      refine HCA.out.mono ?_
      rintro e wc ⟨Y, y, rfl, hoc, hbc⟩
      have HRc := Lib.hid (HRb.out.grown (grown_of_below hbc none) (fun k hk => by cases hk))
      have HGc : Hid (w.grownBy wc (some g)) := World.grownBy.trans HGb.out (grown_of_below hbc _)
      have HOc := Lib.hid (HOb.out.below hbc)
      obtain ⟨mm, HMM⟩ : ∃ v, Hid ((putL xs (z : Int) nw).length = v) := ⟨_, rfl⟩
      cases hv : putO xs (z : Int) nw with
      | false =>
        rw [HMM.out]
        clear hoc hbc HCA hv
        go_wp2
        go_roundw
        case rel => exact ⟨k + 1, m, x, q + 1 + 1, X, xs, by omega, hm, rfl, by go_num, by omega, HN, HOc, HRc, HGc⟩
        case measure => simp [intOf]; omega
      | true =>
        have HOY : Hid (OwnRow LK wc w.heap.size Y y (putL xs (z : Int) nw)) := hoc.base_le hwb
        have hmm : mm ≤ 8 := by rw [← HMM.out]; exact (law_size hv).1
        rw [HMM.out]
        clear hoc hbc HCA hv
        go_wp2
        go_roundw
        case rel => exact ⟨k + 1, mm, y, q + 1 + 1, Y, putL xs (z : Int) nw, by omega, hmm, rfl, by go_num, by omega, HMM, HOY, HRc, HGc⟩
        case measure => simp [intOf]; omega
    · have hkn : k = n := by omega
      subst hkn
      by_cases hm0 : m = 0
      · subst hm0
        go_wp2
        go_ret
        exact ⟨X, x, xs, q, by rw [HN.out]; rfl, HOr.out, by rw [HN.out]; omega, by omega, HRr.out, HGr.out⟩
      · have hmz : ((m : Int) == 0) = false := by rw [beq_eq_false_iff_ne]; omega
        have hmz2 : ¬ m = 0 := hm0
        go_wp2_with fail
        refine (pick_any m HRr.out (by omega) (by omega) (by omega)).mono ?_
        rintro e w2 ⟨j, hj, rfl, hR2, hg2, hz2⟩
        have HR2 := Lib.hid hR2
        have HO2 := Lib.hid (HOr.out.keep hg2 (fun k hk => by injection hk with hk; omega))
        have HG2 : Hid (w.grownBy w2 (some g)) := World.grownBy.trans HGr.out hg2
        clear hR2 hg2 hz2
        have hjm : j < m := by omega
        go_wp2_with fail
        refine (pick_any 20 HR2.out (by omega) (by omega) (by omega)).mono ?_
        rintro e w3 ⟨z, hz, rfl, hR3, hg3, hz3⟩
        have HR3 := Lib.hid hR3
        have HO3 := Lib.hid (HO2.out.keep hg3 (fun k hk => by injection hk with hk; omega))
        have HG3 : Hid (w.grownBy w3 (some g)) := World.grownBy.trans HG2.out hg3
        clear hR3 hg3 hz3
        obtain ⟨G, hXG, hGb, hGl⟩ := HO3.out.form (by rw [HN.out]; omega)
        subst hXG
        have hjx : j < xs.length := by rw [HN.out]; exact hjm
        have hjmi : (j : Int) < (m : Int) := by omega
        have hj0 : (0 : Int) ≤ (j : Int) := by omega
        clear hGl
        by_cases hz0 : z = 0
        · subst hz0
          go_wp2_with fail
          refine (pick_any 102 HR3.out (by omega) (by omega) (by omega)).mono ?_
          rintro e w4 ⟨u, hu, rfl, hR4, hg4, hz4⟩
          have HR4 := Lib.hid hR4
          have HO4 := Lib.hid (HO3.out.keep hg4 (fun k hk => by injection hk with hk; omega))
          have HG4 : Hid (w.grownBy w4 (some g)) := World.grownBy.trans HG3.out hg4
          clear hR4 hg4 hz4
          have hwu : IntKind.i64.wrap ((u : Int) - 1) = (u : Int) - 1 := IntWalk.i64_in _ (by omega)
          obtain ⟨c0, cf⟩ := HO4.out.cellF j (lth xs j) (lth_get xs j hjx) 0 _ rfl
          have HS := OwnRow.stored HO4.out j (lth xs j) ⟨(u : Int) - 1, (lth xs j).t⟩ (lth_get xs j hjx) 0 (by decide) (.int .i64 ((u : Int) - 1)) rfl
          obtain ⟨vn, HVN⟩ : ∃ v, Hid ((lth xs j).n = v) := ⟨_, rfl⟩
          rw [HVN.out] at c0
          have c0' : w4.cell? ⟨G, j * 2, none⟩ = some (.int .i64 vn) := c0
          have cf' : w4.frozen? ⟨G, j * 2, none⟩ = false := cf
          have HOS : Hid (OwnRow LK (w4.setCell ⟨G, j * 2, none⟩ (.int .i64 ((u : Int) - 1))) w.heap.size (some ⟨G, 0, none⟩) x (xs.set j ⟨(u : Int) - 1, (lth xs j).t⟩)) := HS.1
          have HRS : Hid (Rd (w4.setCell ⟨G, j * 2, none⟩ (.int .i64 ((u : Int) - 1))) B g A len cap (q + 1 + 1 + 1)) := HR4.out.setOther (q := ⟨G, j * 2, none⟩) (by show B ≤ G; omega) (by show G ≠ g; omega) _
          have HGS : Hid (w.grownBy (w4.setCell ⟨G, j * 2, none⟩ (.int .i64 ((u : Int) - 1))) (some g)) := grownL_set HG4.out ⟨G, j * 2, none⟩ hGb _
          have HLS : Hid ((xs.set j (⟨(u : Int) - 1, (lth xs j).t⟩ : LD)).length = m) := by show _ = _; rw [List.length_set, HN.out]
          clear HS c0 cf hjx
          go_wp2
          go_ret
          exact ⟨_, x, _, _, by rw [HLS.out]; rfl, HOS.out, by rw [HLS.out]; omega, by omega, HRS.out, HGS.out⟩
        · have hzi : ((z : Int) == 0) = false := by rw [beq_eq_false_iff_ne]; omega
          by_cases hz1 : z = 1
          · subst hz1
            obtain ⟨w3a, HW3a⟩ : ∃ Q0, Hid (w3.alloc (.cells #[.int .i64 (-1), .int .i64 999, .int .i64 1000] 3) = Q0) := ⟨_, rfl⟩
            have HR3a : Hid (Rd w3a B g A len cap (q + 1 + 1)) := by rw [← HW3a.out]; exact HR3.out.alloc _
            have HO3a : Hid (OwnRow LK w3a w.heap.size (some ⟨G, 0, none⟩) x xs) := by rw [← HW3a.out]; exact HO3.out.alloc _
            have KS3a : Hid (Blk w3a w3.heap.size 3 #[.int .i64 (-1), .int .i64 999, .int .i64 1000]) := by rw [← HW3a.out]; exact Blk.new w3 _ _
            have HG3a : Hid (w.grownBy w3a (some g)) := by rw [← HW3a.out]; exact World.grownBy.trans HG3.out (grown_of_alloc w3 _ _)
            have hg3 : g < w3.heap.size := HR3.out.lt
            go_wp2_with fail
            rw [HW3a.out]
            refine (pick_any 3 HR3a.out (by omega) (by omega) (by omega)).mono ?_
            rintro e w4 ⟨u, hu, rfl, hR4, hg4, hz4⟩
            have HR4 := Lib.hid hR4
            have HO4 := Lib.hid (HO3a.out.keep hg4 (fun k hk => by injection hk with hk; omega))
            have HG4 : Hid (w.grownBy w4 (some g)) := World.grownBy.trans HG3a.out hg4
            have KS4 := Lib.hid (KS3a.out.grown hg4 (fun e => by injection e with e; omega))
            clear hR4 hg4 hz4
            obtain ⟨c1, cf⟩ := HO4.out.cellF j (lth xs j) (lth_get xs j hjx) 1 _ rfl
            have HSV := Lib.hid (fun v => OwnRow.stored HO4.out j (lth xs j) ⟨(lth xs j).n, v⟩ (lth_get xs j hjx) 1 (by decide) (.int .i64 v) rfl)
            obtain ⟨vt, HVT⟩ : ∃ v, Hid ((lth xs j).t = v) := ⟨_, rfl⟩
            rw [HVT.out] at c1
            have c1' : w4.cell? ⟨G, j * 2 + 1, none⟩ = some (.int .i64 vt) := c1
            have cf' : w4.frozen? ⟨G, j * 2 + 1, none⟩ = false := cf
            have HRS : Hid (∀ v, Rd (w4.setCell ⟨G, j * 2 + 1, none⟩ v) B g A len cap (q + 1 + 1 + 1)) := fun v => HR4.out.setOther (q := ⟨G, j * 2 + 1, none⟩) (by show B ≤ G; omega) (by show G ≠ g; omega) _
            have HGS : Hid (∀ v, w.grownBy (w4.setCell ⟨G, j * 2 + 1, none⟩ v) (some g)) := fun v => grownL_set HG4.out ⟨G, j * 2 + 1, none⟩ hGb _
            have HLS : Hid (∀ v, (xs.set j (⟨(lth xs j).n, v⟩ : LD)).length = m) := fun v => by rw [List.length_set, HN.out]
            have hu3 : u = 0 ∨ u = 1 ∨ u = 2 := by omega
            have s0 := KS4.out.cell 0
            have s1 := KS4.out.cell 1
            have s2 := KS4.out.cell 2
            simp at s0 s1 s2
            clear c1 cf hjx
            rcases hu3 with rfl | rfl | rfl
            · go_wp2
              go_ret
              exact ⟨_, x, _, _, by rw [HLS.out (-1)]; rfl, (HSV.out (-1)).1, by rw [HLS.out]; omega, by omega, HRS.out _, HGS.out _⟩
            · go_wp2
              go_ret
              exact ⟨_, x, _, _, by rw [HLS.out 999]; rfl, (HSV.out 999).1, by rw [HLS.out]; omega, by omega, HRS.out _, HGS.out _⟩
            · go_wp2
              go_ret
              exact ⟨_, x, _, _, by rw [HLS.out 1000]; rfl, (HSV.out 1000).1, by rw [HLS.out]; omega, by omega, HRS.out _, HGS.out _⟩
          · have hzi1 : ((z : Int) == 1) = false := by rw [beq_eq_false_iff_ne]; omega
            by_cases hz2 : z = 2
            · subst hz2
              have hbz : w.heap.size ≤ w3.heap.size := HG3.out.size
              go_wp2_with (at_builtin; refine wpList_app_row (K := LK) Try.underlying23 HI0.out.1 HI0.out.2.1 HI0.out.2.2.1 HI0.out.2.2.2.1 HI0.out.2.2.2.2 (by decide) rfl (.tmp 61) (.tmp 63) rfl _ w.heap.size (some ⟨G, 0, none⟩) x xs (by rw [HN.out]; rfl) _ _ [(⟨50, 0⟩ : LD)] rfl (HO3.out.alloc _) (one_newR LK _ ⟨50, 0⟩ _) (by rw [HN.out]; show m + 1 ≤ 1000000; omega) (by simp; omega) (fun e => by cases e) ?_; intro v w7 hA; obtain ⟨Y, y, rfl, ho7⟩ := hA.own; have hgc := hA.grown; have hbc := hA.below; have HL7 : Hid ((xs ++ [(⟨50, 0⟩ : LD)]).length = m + 1) := (by show _ = _; rw [List.length_append, HN.out]; rfl); rw [HL7.out])
              have HR7 : Hid (Rd w7 B g A len cap (q + 1 + 1)) := (HR3.out.alloc _).grown hgc (fun k hk => by simp [Value.ownBlock] at hk; omega)
              have HG7 : Hid (w.grownBy w7 (some g)) := ⟨hbc.os.trans HG3.out.os, hbc.tape.trans HG3.out.tape, hbc.output.trans HG3.out.output, Nat.le_trans hbz (by have := hbc.size; simp at this; omega), fun i hi hn => (hbc.block i (by omega)).trans ((Below.heap_alloc _ _ i (by omega)).trans (HG3.out.block i hi hn))⟩
              go_ret
              exact ⟨Y, y, _, _, by rw [HL7.out]; rfl, ho7, by rw [HL7.out]; omega, by omega, HR7.out, HG7.out⟩
            · have hzi2 : ((z : Int) == 2) = false := by rw [beq_eq_false_iff_ne]; omega
              go_wp2
              go_ret
              exact ⟨_, x, xs, _, by rw [HN.out]; rfl, HO3.out, by rw [HN.out]; omega, by omega, HR3.out, HG3.out⟩

end Go.Proofs.Yteceamnmcningaa
