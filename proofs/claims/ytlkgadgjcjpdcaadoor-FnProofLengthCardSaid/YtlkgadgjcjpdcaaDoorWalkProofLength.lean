/- The walk of FnProofLength: it returns true and changes nothing that was there. Condition: the code's bytes lie in memory. -/
import Derived.Test.YtlkgadgjcjpdcaaDoorProofLaws
import Derived.Test.YtlkgadgjcjpdcaaDoorDrawTreeCheck
import Derived.Test.YtlkgadgjcjpdcaaDoorIn
namespace Go.Proofs.YtlkgadgjcjpdcaaDoor
open Go.RowKit
set_option linter.unusedVariables false

theorem wpList_app_intsG {ops : Array Oper} {rest : List Oper} {o : Oper} {a : Act} {Q : Exit → Act → World → Prop} (hw : Region.wanted o (yielded ops a.tmps) = true) (s x : Operand) (ho : o.op = .call { callee := .builtin .append, args := #[s, x], argTypes := #[23, 23] })
    (W : World) (base : Nat) (A : Option Addr) (c : Nat) (ds : List Int) (hs : a.eval s = .slice A ds.length c) (B : Option Addr) (bc : Nat) (zs : List Int) (hx : a.eval x = .slice B zs.length bc)
    (hown : OwnInts W base A c ds) (hI : IntsAt W W.heap.size B zs) (hl : ds.length + zs.length ≤ 2147483647) (hbase : base ≤ W.heap.size) (hB : B = none → bc = 0)
    (h : ∀ v w', Appended W base A ds.length c (ds ++ zs) v w' → wpList Tryd.prog ops Q rest (a.put o.dst v) w') : wpList Tryd.prog ops Q (o :: rest) a W :=
  wpList_step fun K hK => by
    rw [if_pos hw]
    exact wp_app_ints s x ho W base A c ds hs B bc zs hx hown hI hl hbase hB fun v' w' h2 => hK _ _ (h v' w' h2)

set_option maxHeartbeats 4000000 in
set_option maxRecDepth 100000 in
theorem walkProofLength (A : Option Addr) (len cap : Nat) (w : World) (hTab : Tab w) (hI : In w A len cap) :
    Calls Tryd.prog 5 #[.slice A len cap] w fun e w' => e = .returned (.bool true) ∧ Below w.heap.size w w' := by
  have hm := hI.len_le
  unfold maxLen at hm
  have HI := Lib.hid hI
  have HTB := Lib.hid hTab
  clear hI hTab
  by_cases hlen : len ≤ 1048576
  · go_enter Tryd.func5, Tryd.ntmps5
    go_wp2_with fail
    refine (drawtc_any A len cap _ HI.out).mono ?_
    rintro e w1 ⟨dg, n, i, leaf, X, cx, zs, rfl, hz, hn0, hn1, hown1, hb1⟩
    have HO1 := Lib.hid hown1
    have HB1 := Lib.hid hb1
    have HC1 := Lib.hid hown1.le.1
    have HC2 := Lib.hid hown1.le.2
    have HL := Lib.hid (Nat.le_trans hown1.le.1 hown1.le.2)
    clear hown1 hb1
    obtain ⟨bb, HBB⟩ : ∃ b, Hid (treeOkB dg n i leaf zs = b) := ⟨_, rfl⟩
    go_wp2_with fail
    refine (tcheck_any dg n i leaf zs X cx _ (HTB.out.below HB1.out) HO1.out.ints HO1.out.formA HC1.out HC2.out).mono ?_
    rintro e w2 ⟨rfl, hb2⟩
    rw [HBB.out]
    have HO2 := Lib.hid (HO1.out.below hb2)
    have HB2 : Hid (Below w.heap.size w w2) := HB1.out.trans (hb2.mono HB1.out.size)
    clear hb2
    go_wp2_with fail
    refine (stcheck_any dg n i leaf zs X cx _ HO2.out.ints HL.out (by omega) (by omega)).mono ?_
    rintro e w3 ⟨rfl, rfl⟩
    rw [HBB.out]
    cases bb with
    | false =>
      go_wp2_with fail
      refine (stcheck_any dg n i leaf zs X cx _ HO2.out.ints HL.out (by omega) (by omega)).mono ?_
      rintro e w3 ⟨rfl, rfl⟩
      rw [HBB.out]
      go_wp2
      go_ret
      exact ⟨rfl, HB2.out⟩
    | true =>
      have h6 := ok_length HBB.out
      obtain ⟨u1, HU1⟩ : ∃ u : List Int, Hid (zs ++ [(0 : Int)] = u) := ⟨zs ++ [(0 : Int)], Lib.hid rfl⟩
      have HR1 : Hid (treeOkB dg n i leaf u1 = false) := by
        refine ok_other HBB.out ?_
        rw [← HU1.out, List.length_append]
        simp
      have HR2 : Hid (∀ M, M + 1 = zs.length → treeOkB dg n i leaf (zs.take M) = false) := fun M hM => by
        refine ok_other HBB.out ?_
        rw [List.length_take]
        omega
      obtain ⟨W, HW⟩ : ∃ W, Hid (w2 = W) := ⟨_, rfl⟩
      rw [HW.out] at HO2 HB2 ⊢
      obtain ⟨N, HN⟩ : ∃ N, Hid (zs.length = N) := ⟨_, rfl⟩
      rw [HN.out] at hz h6 ⊢
      have h6i : (N : Int) ≤ 6 := by omega
      by_cases hn0 : N = 0
      · subst hn0
        go_wp2_with (first
          | (at_builtin; refine wpList_app_intsG rfl (.tmp 56) (.tmp 57) rfl _ W.heap.size _ _ [] rfl X cx zs (by rw [HN.out]; rfl) (OwnInts.new W) (HO2.out.ints.allocS _) (by rw [HN.out]; simp) (by simp) HO2.out.none0 ?_; intro v w4 hA; rw [List.nil_append] at hA; obtain ⟨⟨A4, c4, rfl, hown4⟩, hg4, hb4⟩ := hA; have HO4 := Lib.hid hown4; have HB4 : Hid (Below W.heap.size W w4) := ((Below.refl _ W).alloc (Nat.le_refl _) _).trans hb4; clear hown4 hg4 hb4; have hs4 : W.heap.size ≤ w4.heap.size := HB4.out.size)
          | (at_builtin; refine wpList_app_intsG rfl (.tmp 58) (.tmp 59) rfl _ W.heap.size A4 c4 zs rfl _ _ [0] rfl (HO4.out.alloc _) (one_new _ _) (by rw [HN.out]; simp) (by simp; omega) (by simp) ?_; intro v w5 hA; rw [HU1.out] at hA; obtain ⟨⟨A5, c5, rfl, hown5⟩, hg5, hb5⟩ := hA; have HO5 := Lib.hid hown5; have HB5 : Hid (Below W.heap.size W w5) := (HB4.out.alloc (by omega) _).trans hb5; clear hown5 hg5 hb5))
        refine (tcheck_any dg n i leaf u1 A5 c5 _ (HTB.out.below (HB2.out.trans (HB5.out.mono HB2.out.size))) HO5.out.ints HO5.out.formA HO5.out.le.1 HO5.out.le.2).mono ?_
        rintro e w6 ⟨rfl, hb6⟩
        rw [HR1.out]
        have HB6 : Hid (Below W.heap.size W w6) := HB5.out.trans (hb6.mono HB5.out.size)
        clear hb6
        go_wp2
        go_ret
        exact ⟨rfl, HB2.out.trans (HB6.out.mono HB2.out.size)⟩
      · have hnb : ((N : Int) == 0) = false := by rw [beq_eq_false_iff_ne]; omega
        obtain ⟨M, HM⟩ : ∃ M, Hid (M + 1 = N) := ⟨N - 1, by show N - 1 + 1 = N; omega⟩
        have hsub : (N : Int) - 1 = (M : Int) := by have := HM.out; omega
        have hcx : (M : Int) ≤ (cx : Int) := by have := HM.out; have := HC1.out; rw [HN.out] at this; omega
        have hM0 : (0 : Int) ≤ (M : Int) := by omega
        obtain ⟨b, hX⟩ := HO2.out.some_ (by rw [HN.out]; omega)
        subst hX
        go_wp2_with (first
          | (at_builtin; refine wpList_app_intsG rfl (.tmp 56) (.tmp 57) rfl _ W.heap.size _ _ [] rfl _ cx zs (by rw [HN.out]; rfl) (OwnInts.new W) (HO2.out.ints.allocS _) (by rw [HN.out]; simp; omega) (by simp) HO2.out.none0 ?_; intro v w4 hA; rw [List.nil_append] at hA; obtain ⟨⟨A4, c4, rfl, hown4⟩, hg4, hb4⟩ := hA; have HO4 := Lib.hid hown4; have HB4 : Hid (Below W.heap.size W w4) := ((Below.refl _ W).alloc (Nat.le_refl _) _).trans hb4; clear hown4 hg4 hb4; have hs4 : W.heap.size ≤ w4.heap.size := HB4.out.size)
          | (at_builtin; refine wpList_app_intsG rfl (.tmp 58) (.tmp 59) rfl _ W.heap.size A4 c4 zs rfl _ _ [0] rfl (HO4.out.alloc _) (one_new _ _) (by rw [HN.out]; simp; omega) (by simp; omega) (by simp) ?_; intro v w5 hA; rw [HU1.out] at hA; obtain ⟨⟨A5, c5, rfl, hown5⟩, hg5, hb5⟩ := hA; have HO5 := Lib.hid hown5; have HB5 : Hid (Below W.heap.size W w5) := (HB4.out.alloc (by omega) _).trans hb5; clear hown5 hg5 hb5))
        refine (tcheck_any dg n i leaf u1 A5 c5 _ (HTB.out.below (HB2.out.trans (HB5.out.mono HB2.out.size))) HO5.out.ints HO5.out.formA HO5.out.le.1 HO5.out.le.2).mono ?_
        rintro e w6 ⟨rfl, hb6⟩
        rw [HR1.out]
        have HB6 : Hid (Below W.heap.size W w6) := HB5.out.trans (hb6.mono HB5.out.size)
        have HBw6 : Hid (Below w.heap.size w w6) := HB2.out.trans (HB6.out.mono HB2.out.size)
        have HO6 := Lib.hid (HO2.out.below HB6.out)
        clear hb6
        have C : Hid (Calls Tryd.prog 13 #[.int .i64 dg, .int .i64 n, .int .i64 i, .int .i64 leaf, .slice (some ⟨b, 0, none⟩) M cx] w6 fun e w' => e = .returned (.bool false) ∧ Below w6.heap.size w6 w') := by
          have hl : (zs.take M).length = M := by rw [List.length_take, HN.out]; have := HM.out; omega
          have := tcheck_any dg n i leaf (zs.take M) (some ⟨b, 0, none⟩) cx w6 (HTB.out.below HBw6.out) (HO6.out.ints.first M) (.inr ⟨b, 0, rfl⟩) (by have := HC1.out; rw [HN.out] at this; have := HM.out; omega) HC2.out
          rw [hl, HR2.out M (by rw [HN.out]; exact HM.out)] at this
          exact this
        go_wp2_with fail
        refine C.out.mono ?_
        rintro e w7 ⟨rfl, hb7⟩
        have HB7 : Hid (Below w.heap.size w w7) := HBw6.out.trans (hb7.mono HBw6.out.size)
        clear hb7
        go_wp2
        go_ret
        exact ⟨rfl, HB7.out⟩
  · have h9 : 1048576 < len := by omega
    clear hlen
    go_enter Tryd.func5, Tryd.ntmps5
    go_wp2
    go_ret
    exact ⟨rfl, Below.refl _ _⟩

end Go.Proofs.YtlkgadgjcjpdcaaDoor
