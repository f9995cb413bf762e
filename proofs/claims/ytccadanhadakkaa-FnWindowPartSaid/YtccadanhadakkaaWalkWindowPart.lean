/- The walk of FnWindowPart: it returns true and changes nothing that was there. Condition: the codes' bytes lie in memory. -/
import Derived.Test.YtccadanhadakkaaDrawWin
import Derived.Test.YtccadanhadakkaaSWinValid
import Derived.Deep.DeepCutAuto
namespace Go.Proofs.Ytccadanhadakkaa
open Go.RowKit
set_option linter.unusedVariables false

theorem row_drop {w : World} {B b o : Nat} {xs : List AD} (h : RowAt AK w B (some ⟨b, o, none⟩) xs) (s : Nat) : RowAt AK w B (some ⟨b, o + s * 2, none⟩) (xs.drop s) := fun hn => by
  rw [List.length_drop] at hn
  obtain ⟨hb, hc⟩ := h.lt (by omega)
  refine ⟨b, o + s * 2, rfl, hb, fun j x hx i v hv => ?_⟩
  rw [List.getElem?_drop] at hx
  have hh := hc (s + j) x hx i v hv
  have e : o + s * 2 + j * AK.k + i = o + (s + j) * AK.k + i := by show o + s * 2 + j * 2 + i = o + (s + j) * 2 + i; omega
  rw [e]
  exact hh
/-- A row below block C is kept where blocks from C on turn. -/
theorem row_low {w w' : World} {base C c : Nat} {A : Option Addr} {xs : List AD} (h : OwnRow AK w base A c xs) (hb : Below C w w') (hl : ∀ g, A = some ⟨g, 0, none⟩ → g < C) : OwnRow AK w' base A c xs := by
  refine ⟨h.1, ?_⟩
  rcases h.2 with h0 | ⟨g, cp, cur, hv, hg, hblk, hr⟩
  · exact .inl h0
  · refine .inr ⟨g, cp, cur, hv, hg, (hb.block g (hl g ?_)).trans hblk, hr⟩
    injection hv
theorem own_lt {w : World} {base g c : Nat} {xs : List AD} (h : OwnRow AK w base (some ⟨g, 0, none⟩) c xs) : g < w.heap.size := (World.ownsRow.lt h g rfl).2
/-- A row in a block of its own is kept where another row grows. -/
theorem one_kept {W W' : World} {g f n c : Nat} {xs : List AD} (h : RowAt AK W W.heap.size (some ⟨g, 0, none⟩) xs) (hg : W.grownBy W' (Value.ownBlock (.slice (some ⟨f, 0, none⟩) n c))) (hne : g ≠ f) : RowAt AK W' W'.heap.size (some ⟨g, 0, none⟩) xs := fun hn => by
  obtain ⟨b, o, e, hb, hc⟩ := h hn
  have hs := hg.size
  refine ⟨b, o, e, by omega, fun j x hx i v hv => (World.cell?_of_block (hg.block b hb ?_)).trans (hc j x hx i v hv)⟩
  injection e with e
  injection e with e1 e2
  subst e1
  intro e
  simp [Value.ownBlock] at e
  omega
theorem one_newA (W : World) (a : AD) : RowAt AK (W.alloc (.cells #[.int .i64 a.p, .int .i64 a.b] 25)) (W.alloc (.cells #[.int .i64 a.p, .int .i64 a.b] 25)).heap.size (some ⟨W.heap.size, 0, none⟩) [a] := one_newR AK W a _

set_option maxHeartbeats 4000000 in
set_option maxRecDepth 100000 in
theorem drawWValid_any (A : Option Addr) (len cap : Nat) (w : World) (hI : In w A len cap) :
    Calls Try.prog 14 #[.slice A len cap] w fun e w' => ∃ (X : Option Addr) (c : Nat) (xs : List AD), e = .returned (.slice X xs.length c) ∧ OwnRow AK w' w.heap.size X c xs ∧ xs.length ≤ 20 ∧ Below w.heap.size w w' := by
  have HI := Lib.hid hI
  clear hI
  go_enter Try.func14, Try.ntmps14
  go_wp2_with fail
  refine (open_any A len cap _ HI.out).mono ?_
  rintro e w1 ⟨len', cap', rfl, hR1, hb1⟩
  have HR1 := Lib.hid hR1
  have HB1 := Lib.hid hb1
  clear hR1 hb1
  go_wp2_with fail
  refine (drawwin_any HR1.out (by omega)).mono ?_
  rintro e w2 ⟨X, c, xs, q2, rfl, ho2, hl, hq2, hR2, hg2⟩
  have HB2 : Hid (Below w.heap.size w w2) := HB1.out.grown hg2 HB1.out.size (fun i hi => by injection hi with hi; omega)
  have HO2 := Lib.hid (ho2.base_le HB1.out.size)
  clear ho2 hg2 hR2
  go_wp2
  go_ret
  exact ⟨X, c, xs, rfl, HO2.out, hl, HB2.out⟩

set_option maxHeartbeats 16000000 in
set_option maxRecDepth 100000 in
theorem walkWindowPart (A : Option Addr) (len cap : Nat) (A1 : Option Addr) (len1 cap1 : Nat) (w : World) (hI : In w A len cap) (hI1 : In w A1 len1 cap1) :
    Calls Try.prog 5 #[.slice A len cap, .slice A1 len1 cap1] w fun e w' => e = .returned (.bool true) ∧ Below w.heap.size w w' := by
  have hm := hI.len_le
  unfold maxLen at hm
  have hm1 := hI1.len_le
  unfold maxLen at hm1
  clear hI1
  have HI := Lib.hid hI
  clear hI
  by_cases hlen : len ≤ 1048576
  · by_cases hlen1 : len1 ≤ 1048576
    · go_enter Try.func5, Try.ntmps5
      go_wp2_with fail
      refine (drawWValid_any A len cap _ HI.out).mono ?_
      rintro e w1 ⟨X, c, xs, rfl, ho1, hl20, hb1⟩
      have PF1 := Lib.hid ho1
      have HB1 := Lib.hid hb1
      clear ho1 hb1
      obtain ⟨nb, HN⟩ : ∃ v, Hid (xs.length = v) := ⟨_, rfl⟩
      obtain ⟨ov, HV⟩ : ∃ v, Hid (winB xs = v) := ⟨_, rfl⟩
      rw [HN.out] at hl20 ⊢
      have CI := Lib.hid (winValid_any X c xs w1 (own_asks PF1.out))
      rw [HN.out, HV.out] at CI
      go_wp2_with fail
      refine CI.out.mono ?_
      rintro e w2 ⟨rfl, hb2⟩
      have PF2 := Lib.hid (PF1.out.below hb2)
      have HB2 : Hid (Below w.heap.size w w2) := HB1.out.trans (hb2.mono HB1.out.size)
      clear hb2 CI
      have CI := Lib.hid (swinValid_any X c xs w2 (own_asks PF2.out))
      rw [HN.out, HV.out] at CI
      go_wp2_with fail
      refine CI.out.mono ?_
      rintro e w3 ⟨rfl, hb3⟩
      have PF3 := Lib.hid (PF2.out.below hb3)
      have HB3 : Hid (Below w.heap.size w w3) := HB2.out.trans (hb3.mono HB2.out.size)
      clear hb3 CI
      have hne : (ov != ov) = false := by simp
      have heq : (ov == ov) = true := by simp
      cases ov with
      | false =>
        go_wp2
        go_ret
        exact ⟨rfl, HB3.out⟩
      | true =>
        by_cases hn0 : nb = 0
        · subst hn0
          go_wp2
          go_ret
          exact ⟨rfl, HB3.out⟩
        · have hnz : ((nb : Int) == 0) = false := by simp; omega
          have hnz2 : ¬ (nb : Int) = 0 := by omega
          obtain ⟨kk, HK⟩ : ∃ v, Hid (len1 % nb = v) := ⟨_, rfl⟩
          have hkn : kk < nb := by rw [← HK.out]; exact Nat.mod_lt _ (by omega)
          have hrem : ((len1 : Int).tmod (nb : Int)) = (kk : Int) := by
            rw [Int.tmod_eq_emod_of_nonneg (by omega), ← HK.out]
            first | exact (Int.natCast_mod len1 nb).symm | rfl
          have hwk0 : IntKind.i64.wrap (kk : Int) = (kk : Int) := IntWalk.i64_in _ (by omega)
          have hcp := (own_asks PF3.out).le
          rw [HN.out] at hcp
          have HLS := Lib.hid (win_less HV.out kk)
          have HMO := Lib.hid (win_more (xs := xs) kk (by rw [HN.out]; exact hkn))
          obtain ⟨b, o, hX⟩ := (own_asks PF3.out).row.some_ (by rw [HN.out]; omega)
          subst hX
          obtain ⟨i0, z0, hi0, hz0, hz1, hz2, hz3⟩ := ask_app_info
          have HI0 := Lib.hid (And.intro hi0 (And.intro hz0 (And.intro hz1 (And.intro hz2 hz3))))
          clear hi0 hz0 hz1 hz2 hz3
          have HRW : Hid (∀ U, Below w3.heap.size w3 U → RowAt AK U U.heap.size (some ⟨b, o, none⟩) xs) := fun U hU => (own_asks (PF3.out.below hU)).row
          have HT1 : Hid ((xs.take kk).length = kk) := by show _ = _; rw [List.length_take, HN.out]; omega
          have HT2 : Hid ((xs.drop (kk + 1)).length = nb - (kk + 1)) := by show _ = _; rw [List.length_drop, HN.out]
          have HD : Hid (∀ U, Below w3.heap.size w3 U → RowAt AK U U.heap.size (if c = kk + 1 then some ⟨b, o, none⟩ else some ⟨b, o + (kk + 1) * 2, none⟩) (xs.drop (kk + 1))) := fun U hU => by
            by_cases he : c = kk + 1
            · have h0 : xs.drop (kk + 1) = [] := List.eq_nil_of_length_eq_zero (by rw [HT2.out]; omega)
              rw [h0]; exact RowAt.nil
            · rw [if_neg he]; exact row_drop (HRW.out U hU) (kk + 1)
          have HSP : Hid ((xs.take kk ++ xs.drop (kk + 1)).length = nb - 1) := by show _ = _; rw [List.length_append, HT1.out, HT2.out]; omega
          have hkci : (kk : Int) ≤ (c : Int) := by omega
          have hkni : (kk : Int) ≤ (nb : Int) := by omega
          have hkli : (kk : Int) < (nb : Int) := by omega
          have hwk : IntKind.i64.wrap ((kk : Int) + 1) = (kk : Int) + 1 := IntWalk.i64_in _ (by omega)
          have hkn0 : (0 : Int) ≤ (kk : Int) + 1 := by omega
          have hk00 : (0 : Int) ≤ (kk : Int) := by omega
          have hktn : ((kk : Int) + 1).toNat = kk + 1 := by omega
          have hk1i : (kk : Int) + 1 ≤ (nb : Int) := by omega
          have hk1c : (kk : Int) + 1 ≤ (c : Int) := by omega
          clear hne heq
          go_wp2_with fail
          refine wp_region_held_drew (S := (fun _ => True)) (by kernel_rfl) (trivial) (fun hHeld => ?_)
          obtain ⟨U0, HUE⟩ : ∃ U, Hid (w3.drew = U) := ⟨_, rfl⟩
          have HW0 : Hid (Below w3.heap.size w3 U0) := by rw [← HUE.out]; exact below_drew (Below.refl _ _)
          rw [HUE.out]
          refine wpAnyH_take (i := 1) (v := ?zv62001) rfl (by kernel_rfl) (by kernel_rfl) (by kernel_rfl) (fun _ _ _ h => h) (Or.inl ⟨by kernel_rfl, ?zy62001⟩) (by assumption) ?zr62001
          case zy62001 => (intro w hSw; (try dsimp only at hSw); go_simp; try with_reducible rfl)
          change wpAnyH _ _ _ _ _ _ _ (Act.put _ (some 46) _) _
          simp only [Act.put, List.setIfInBounds_toArray, List.set_cons_zero, List.set_cons_succ]
          refine wpAnyH_take (i := 2) (v := ?zv62002) rfl (by kernel_rfl) (by kernel_rfl) (by kernel_rfl) (fun _ _ _ h => h) (Or.inl ⟨by kernel_rfl, ?zy62002⟩) (by assumption) ?zr62002
          case zy62002 => (intro w hSw; (try dsimp only at hSw); go_simp; try with_reducible rfl)
          change wpAnyH _ _ _ _ _ _ _ (Act.put _ (some 47) _) _
          simp only [Act.put, List.setIfInBounds_toArray, List.set_cons_zero, List.set_cons_succ]
          refine wpAnyH_take (i := 5) (v := ?zv62003) rfl (by kernel_rfl) (by kernel_rfl) (by kernel_rfl) (fun _ _ _ h => h) (Or.inl ⟨by kernel_rfl, ?zy62003⟩) (by assumption) ?zr62003
          case zy62003 => (intro w hSw; (try dsimp only at hSw); go_simp; try with_reducible rfl)
          change wpAnyH _ _ _ _ _ _ _ (Act.put _ (some 50) _) _
          simp only [Act.put, List.setIfInBounds_toArray, List.set_cons_zero, List.set_cons_succ]
          refine wpAnyH_take (i := 6) (v := ?zv62004) rfl (by kernel_rfl) (by kernel_rfl) (by kernel_rfl) (fun _ _ _ h => h) (Or.inl ⟨by kernel_rfl, ?zy62004⟩) (by assumption) ?zr62004
          case zy62004 => (intro w hSw; (try dsimp only at hSw); go_simp; try with_reducible rfl)
          change wpAnyH _ _ _ _ _ _ _ (Act.put _ (some 51) _) _
          simp only [Act.put, List.setIfInBounds_toArray, List.set_cons_zero, List.set_cons_succ]
          refine wpAnyH_take (i := 3) (v := ?zv62005) rfl (by kernel_rfl) (by kernel_rfl) (by kernel_rfl) (fun _ _ _ h => h) (Or.inl ⟨by kernel_rfl, ?zy62005⟩) (by assumption) ?zr62005
          case zy62005 => (intro w hSw; (try dsimp only at hSw); go_simp; try with_reducible rfl)
          change wpAnyH _ _ _ _ _ _ _ (Act.put _ (some 48) _) _
          simp only [Act.put, List.setIfInBounds_toArray, List.set_cons_zero, List.set_cons_succ]
          refine wpAnyH_take (i := 7) (v := ?zv62006) rfl (by kernel_rfl) (by kernel_rfl) (by kernel_rfl) (fun _ _ _ h => h) (Or.inl ⟨by kernel_rfl, ?zy62006⟩) (by assumption) ?zr62006
          case zy62006 => (intro w hSw; (try dsimp only at hSw); go_simp; try with_reducible rfl)
          change wpAnyH _ _ _ _ _ _ _ (Act.put _ (some 52) _) _
          simp only [Act.put, List.setIfInBounds_toArray, List.set_cons_zero, List.set_cons_succ]
          refine wpAnyH_take (i := 8) (v := ?zv62007) rfl (by kernel_rfl) (by kernel_rfl) (by kernel_rfl) (fun _ _ _ h => h) (Or.inl ⟨by kernel_rfl, ?zy62007⟩) (by assumption) ?zr62007
          case zy62007 => (intro w hSw; (try dsimp only at hSw); go_simp; try with_reducible rfl)
          change wpAnyH _ _ _ _ _ _ _ (Act.put _ (some 53) _) _
          simp only [Act.put, List.setIfInBounds_toArray, List.set_cons_zero, List.set_cons_succ]
          refine wpAnyH_ready (rs := [0]) (by kernel_rfl) (by simp) (AllReadyH.cons rfl (fun K hK => ?zo62008_0) AllReadyH.nil)
          case zo62008_0 =>
            go_simp
            refine hK.out _ _ (trivial) (fun hHeld => ?_)
            clear hK K
            (try simp only [Act.put, List.setIfInBounds_toArray, List.set_cons_zero, List.set_cons_succ])
            obtain ⟨U1, EU1⟩ : ∃ U, Hid (U0.alloc (.cells #[] 25) = U) := ⟨_, rfl⟩
            have hb1 : Below U0.heap.size U0 U1 := by rw [← EU1.out]; exact (Below.refl _ _).alloc (Nat.le_refl _) _
            have HW1 : Hid (Below w3.heap.size w3 U1) := HW0.out.trans (hb1.mono HW0.out.size)
            have EE1 : Hid (OwnRow AK U1 w3.heap.size (some ⟨U0.heap.size, 0, none⟩) 0 []) := by rw [← EU1.out]; exact (OwnRow.new AK U0).base_le HW0.out.size
            clear hb1
            rw [EU1.out]
            refine wpAnyH_ready (rs := [4]) (by kernel_rfl) (by simp) (AllReadyH.cons rfl (fun K hK => ?zo62009_0) AllReadyH.nil)
            case zo62009_0 =>
              refine step_app_row (K := AK) Try.underlying23 HI0.out.1 HI0.out.2.1 HI0.out.2.2.1 HI0.out.2.2.2.1 HI0.out.2.2.2.2 (by decide) rfl (.tmp 45) (.tmp 48) rfl U1 w3.heap.size (some ⟨U0.heap.size, 0, none⟩) 0 [] rfl (some ⟨b, o, none⟩) c (xs.take kk) (by rw [HT1.out]; rfl) EE1.out ((HRW.out U1 HW1.out).first kk) (by rw [HT1.out]; simp; omega) HW1.out.size (fun e => by cases e) ?_
              intro v5 U2 hA
              obtain ⟨E1, e1, rfl, ho5⟩ := hA.own
              have HW2 : Hid (Below w3.heap.size w3 U2) := HW1.out.trans hA.below
              rw [List.nil_append] at ho5 ⊢
              have EE2 := Lib.hid ho5
              clear hA ho5
              rw [HT1.out]
              refine hK.out _ _ (trivial) (fun hHeld => ?_)
              clear hK K
              change wpAnyH _ _ _ _ _ _ _ (Act.put _ (some 49) _) _
              simp only [Act.put, List.setIfInBounds_toArray, List.set_cons_zero, List.set_cons_succ]
              refine wpAnyH_ready (rs := [9]) (by kernel_rfl) (by simp) (AllReadyH.cons rfl (fun K hK => ?zo62010_0) AllReadyH.nil)
              case zo62010_0 =>
                refine step_app_row (K := AK) Try.underlying23 HI0.out.1 HI0.out.2.1 HI0.out.2.2.1 HI0.out.2.2.2.1 HI0.out.2.2.2.2 (by decide) rfl (.tmp 49) (.tmp 53) rfl U2 w3.heap.size E1 e1 (xs.take kk) (by rw [HT1.out]; rfl) (if c = kk + 1 then some ⟨b, o, none⟩ else some ⟨b, o + (kk + 1) * 2, none⟩) (c - (kk + 1)) (xs.drop (kk + 1)) (by rw [HT2.out]; rfl) EE2.out (HD.out U2 HW2.out) (by rw [HT2.out, HT1.out]; omega) HW2.out.size (fun e => by split at e <;> cases e) ?_
                intro v5 U3 hA
                obtain ⟨E2, e2, rfl, ho5⟩ := hA.own
                have HW3 : Hid (Below w3.heap.size w3 U3) := HW2.out.trans hA.below
                have EE3 := Lib.hid ho5
                clear hA ho5
                rw [HSP.out]
                refine hK.out _ _ (trivial) (fun hHeld => ?_)
                clear hK K
                change wpAnyH _ _ _ _ _ _ _ (Act.put _ (some 54) _) _
                simp only [Act.put, List.setIfInBounds_toArray, List.set_cons_zero, List.set_cons_succ]
                refine wpAnyH_take (i := 10) (v := ?zv62011) rfl (by kernel_rfl) (by kernel_rfl) (by kernel_rfl) (fun _ _ _ h => h) (Or.inl ⟨by kernel_rfl, ?zy62011⟩) (by assumption) ?zr62011
                case zy62011 => (intro w hSw; (try dsimp only at hSw); go_simp; try with_reducible rfl)
                change wpAnyH _ _ _ _ _ _ _ (Act.put _ (some 9) _) _
                simp only [Act.put, List.setIfInBounds_toArray, List.set_cons_zero, List.set_cons_succ]
                refine wpAnyH_done (by kernel_rfl) ?_ _
                obtain ⟨w6, HW6E⟩ : ∃ U, Hid (U3 = U) := ⟨_, rfl⟩
                have HL6 : Hid (OwnRow AK w6 w3.heap.size E2 e2 (xs.take kk ++ xs.drop (kk + 1))) := by rw [← HW6E.out]; exact EE3.out
                have HW6 : Hid (Below w3.heap.size w3 w6) := by rw [← HW6E.out]; exact HW3.out
                rw [HW6E.out]
                clear HW6E
                obtain ⟨D0, HD0⟩ : ∃ v, Hid ((if c = kk + 1 then some (⟨b, o, none⟩ : Addr) else some ⟨b, o + (kk + 1) * 2, none⟩) = v) := ⟨_, rfl⟩
                rw [HD0.out]
                go_wp2_with fail
                obtain ⟨qp, HQP⟩ : ∃ v, Hid ((ath xs kk).p = v) := ⟨_, rfl⟩
                obtain ⟨qb, HQB⟩ : ∃ v, Hid ((ath xs kk).b = v) := ⟨_, rfl⟩
                have HMO2 : Hid (winB (xs ++ [(⟨qp, qb⟩ : AD)]) = false) := by show _ = _; rw [← HMO.out, ← HQP.out, ← HQB.out]
                have HL1 : Hid ((xs ++ [(⟨qp, qb⟩ : AD)]).length = nb + 1) := by show _ = _; rw [List.length_append, HN.out]; rfl
                have hcel := ask_cells (HRW.out w6 HW6.out) kk (by rw [HN.out]; exact hkn)
                rw [HQP.out, HQB.out] at hcel
                have hb6 : b < w6.heap.size := ((HRW.out w6 HW6.out).lt (by rw [HN.out]; omega)).1
                have hlow : ∀ g, E2 = some ⟨g, 0, none⟩ → g < w6.heap.size := fun g hg => (World.ownsRow.lt HL6.out g (by rw [hg]; rfl)).2
                refine wp_region_held_drew (S := (fun w' => w'.cell? ⟨b, o + kk * 2, none⟩ = some (.int .i64 qp) ∧ w'.cell? ⟨b, o + kk * 2 + 1, none⟩ = some (.int .i64 qb))) (by kernel_rfl) (hcel) (fun hHeld => ?_)
                obtain ⟨V0, HVE⟩ : ∃ U, Hid (w6.drew = U) := ⟨_, rfl⟩
                have HV0 : Hid (Below w3.heap.size w3 V0) := by rw [← HVE.out]; exact below_drew HW6.out
                have LL0 : Hid (OwnRow AK V0 w3.heap.size E2 e2 (xs.take kk ++ xs.drop (kk + 1))) := by rw [← HVE.out]; exact HL6.out.drewN 1
                have HZ0 : Hid (w6.heap.size ≤ V0.heap.size) := by rw [← HVE.out]; exact Nat.le_refl _
                have hbl0 : b < V0.heap.size := by rw [← HVE.out]; exact hb6
                rw [HVE.out]
                rw [HVE.out] at hHeld
                refine wpAnyH_take (i := 1) (v := ?zv62012) rfl (by kernel_rfl) (by kernel_rfl) (by kernel_rfl) (fun _ _ _ h => h) (Or.inl ⟨by kernel_rfl, ?zy62012⟩) (by assumption) ?zr62012
                case zy62012 => (intro w hSw; (try dsimp only at hSw); go_simp; try with_reducible rfl)
                change wpAnyH _ _ _ _ _ _ _ (Act.put _ (some 56) _) _
                simp only [Act.put, List.setIfInBounds_toArray, List.set_cons_zero, List.set_cons_succ]
                refine wpAnyH_take (i := 3) (v := ?zv62013) rfl (by kernel_rfl) (by kernel_rfl) (by kernel_rfl) (fun _ _ _ h => h) (Or.inl ⟨by kernel_rfl, ?zy62013⟩) (by assumption) ?zr62013
                case zy62013 => (intro w hSw; (try dsimp only at hSw); go_simp; try with_reducible rfl)
                change wpAnyH _ _ _ _ _ _ _ (Act.put _ (some 58) _) _
                simp only [Act.put, List.setIfInBounds_toArray, List.set_cons_zero, List.set_cons_succ]
                refine wpAnyH_take (i := 4) (v := ?zv62014) rfl (by kernel_rfl) (by kernel_rfl) (by kernel_rfl) (fun _ _ _ h => h) (Or.inl ⟨by kernel_rfl, ?zy62014⟩) (by assumption) ?zr62014
                case zy62014 => (intro w hSw; (try dsimp only at hSw); go_simp; try with_reducible rfl)
                change wpAnyH _ _ _ _ _ _ _ (Act.put _ (some 59) _) _
                simp only [Act.put, List.setIfInBounds_toArray, List.set_cons_zero, List.set_cons_succ]
                refine wpAnyH_take (i := 5) (v := ?zv62015) rfl (by kernel_rfl) (by kernel_rfl) (by kernel_rfl) (fun _ _ _ h => h) (Or.inl ⟨by kernel_rfl, ?zy62015⟩) (by assumption) ?zr62015
                case zy62015 => (intro w hSw; (try dsimp only at hSw); go_simp; try with_reducible rfl)
                change wpAnyH _ _ _ _ _ _ _ (Act.put _ (some 60) _) _
                simp only [Act.put, List.setIfInBounds_toArray, List.set_cons_zero, List.set_cons_succ]
                refine wpAnyH_take (i := 6) (v := ?zv62016) rfl (by kernel_rfl) (by kernel_rfl) (by kernel_rfl) (fun _ _ _ h => h) (Or.inl ⟨by kernel_rfl, ?zy62016⟩) (by assumption) ?zr62016
                case zy62016 => (intro w hSw; (try dsimp only at hSw); go_simp; try with_reducible rfl)
                change wpAnyH _ _ _ _ _ _ _ (Act.put _ (some 61) _) _
                simp only [Act.put, List.setIfInBounds_toArray, List.set_cons_zero, List.set_cons_succ]
                refine wpAnyH_ready (rs := [0, 7]) (by kernel_rfl) (by simp) (AllReadyH.cons rfl (fun K hK => ?zo62017_0) (AllReadyH.cons rfl (fun K hK => ?zo62017_1) AllReadyH.nil))
                case zo62017_0 =>
                  go_simp
                  refine hK.out _ _ (⟨(World.cell?_alloc_lt _ _ _ hbl0).trans hHeld.1, (World.cell?_alloc_lt _ _ _ hbl0).trans hHeld.2⟩) (fun hHeld => ?_)
                  clear hK K
                  (try simp only [Act.put, List.setIfInBounds_toArray, List.set_cons_zero, List.set_cons_succ])
                  obtain ⟨V1, EV1⟩ : ∃ U, Hid (V0.alloc (.cells #[] 25) = U) := ⟨_, rfl⟩
                  have hc1 : Below V0.heap.size V0 V1 := by rw [← EV1.out]; exact (Below.refl _ _).alloc (Nat.le_refl _) _
                  have HV1 : Hid (Below w3.heap.size w3 V1) := HV0.out.trans (hc1.mono HV0.out.size)
                  have LL1 := Lib.hid (LL0.out.below hc1)
                  have FF1 : Hid (OwnRow AK V1 w6.heap.size (some ⟨V0.heap.size, 0, none⟩) 0 []) := by rw [← EV1.out]; exact (OwnRow.new AK V0).base_le HZ0.out
                  have HZ1 : Hid (w6.heap.size ≤ V1.heap.size) := Nat.le_trans HZ0.out hc1.size
                  have hbl1 : b < V1.heap.size := Nat.lt_of_lt_of_le hbl0 hc1.size
                  clear hc1
                  rw [EV1.out]
                  rw [EV1.out] at hHeld
                  refine wpAnyH_ready (rs := [2, 7]) (by kernel_rfl) (by simp) (AllReadyH.cons rfl (fun K hK => ?zo62018_0) (AllReadyH.cons rfl (fun K hK => ?zo62018_1) AllReadyH.nil))
                  case zo62018_0 =>
                    refine step_app_row (K := AK) Try.underlying23 HI0.out.1 HI0.out.2.1 HI0.out.2.2.1 HI0.out.2.2.2.1 HI0.out.2.2.2.2 (by decide) rfl (.tmp 55) (.tmp 56) rfl V1 w6.heap.size (some ⟨V0.heap.size, 0, none⟩) 0 [] rfl (some ⟨b, o, none⟩) c xs (by rw [HN.out]; rfl) FF1.out (HRW.out V1 HV1.out) (by rw [HN.out]; simp; omega) HZ1.out (fun e => by cases e) ?_
                    intro v5 V2 hA
                    obtain ⟨F1, f1, rfl, ho5⟩ := hA.own
                    have hc2 : Below w6.heap.size V1 V2 := hA.below
                    have HV2 : Hid (Below w3.heap.size w3 V2) := HV1.out.trans (hc2.mono (by have := HW6.out.size; omega))
                    have LL2 := Lib.hid (row_low LL1.out hc2 hlow)
                    have HZ2 : Hid (w6.heap.size ≤ V2.heap.size) := Nat.le_trans HZ1.out hA.grown.size
                    have hbl2 : b < V2.heap.size := Nat.lt_of_lt_of_le hbl1 hA.grown.size
                    rw [List.nil_append] at ho5 ⊢
                    have FF2 := Lib.hid ho5
                    clear hA ho5
                    rw [HN.out]
                    refine hK.out _ _ (⟨(hc2.cell (p := ⟨b, o + kk * 2, none⟩) hb6).trans hHeld.1, (hc2.cell (p := ⟨b, o + kk * 2 + 1, none⟩) hb6).trans hHeld.2⟩) (fun hHeld => ?_)
                    clear hK K
                    change wpAnyH _ _ _ _ _ _ _ (Act.put _ (some 57) _) _
                    simp only [Act.put, List.setIfInBounds_toArray, List.set_cons_zero, List.set_cons_succ]
                    clear hc2
                    refine wpAnyH_ready (rs := [7]) (by kernel_rfl) (by simp) (AllReadyH.cons rfl (fun K hK => ?zo62019_0) AllReadyH.nil)
                    case zo62019_0 =>
                      go_simp
                      refine hK.out _ _ (⟨(World.cell?_alloc_lt _ _ _ hbl2).trans hHeld.1, (World.cell?_alloc_lt _ _ _ hbl2).trans hHeld.2⟩) (fun hHeld => ?_)
                      clear hK K
                      (try simp only [Act.put, List.setIfInBounds_toArray, List.set_cons_zero, List.set_cons_succ])
                      obtain ⟨V3, EV3⟩ : ∃ U, Hid (V2.alloc (.cells #[.int .i64 qp, .int .i64 qb] 25) = U) := ⟨_, rfl⟩
                      have hc3 : Below V2.heap.size V2 V3 := by rw [← EV3.out]; exact (Below.refl _ _).alloc (Nat.le_refl _) _
                      have HV3 : Hid (Below w3.heap.size w3 V3) := HV2.out.trans (hc3.mono HV2.out.size)
                      have LL3 := Lib.hid (LL2.out.below hc3)
                      have FF3 := Lib.hid (FF2.out.below hc3)
                      have GG3 : Hid (RowAt AK V3 V3.heap.size (some ⟨V2.heap.size, 0, none⟩) [(⟨qp, qb⟩ : AD)]) := by rw [← EV3.out]; exact one_newA V2 ⟨qp, qb⟩
                      have HZ3 : Hid (w6.heap.size ≤ V3.heap.size) := Nat.le_trans HZ2.out hc3.size
                      have hbl3 : b < V3.heap.size := Nat.lt_of_lt_of_le hbl2 hc3.size
                      clear hc3
                      rw [EV3.out]
                      rw [EV3.out] at hHeld
                      refine wpAnyH_ready (rs := [8]) (by kernel_rfl) (by simp) (AllReadyH.cons rfl (fun K hK => ?zo62020_0) AllReadyH.nil)
                      case zo62020_0 =>
                        refine step_app_row (K := AK) Try.underlying23 HI0.out.1 HI0.out.2.1 HI0.out.2.2.1 HI0.out.2.2.2.1 HI0.out.2.2.2.2 (by decide) rfl (.tmp 57) (.tmp 62) rfl V3 w6.heap.size F1 f1 xs (by rw [HN.out]; rfl) (some ⟨V2.heap.size, 0, none⟩) 1 [(⟨qp, qb⟩ : AD)] rfl FF3.out GG3.out (by rw [HN.out]; simp; omega) HZ3.out (fun e => by cases e) ?_
                        intro v5 V4 hA
                        obtain ⟨F2, f2, rfl, ho5⟩ := hA.own
                        have hc4 : Below w6.heap.size V3 V4 := hA.below
                        have HV4 : Hid (Below w3.heap.size w3 V4) := HV3.out.trans (hc4.mono (by have := HW6.out.size; omega))
                        have LL4 := Lib.hid (row_low LL3.out hc4 hlow)
                        have FF4 := Lib.hid ho5
                        clear hA ho5
                        rw [HL1.out]
                        refine hK.out _ _ (⟨(hc4.cell (p := ⟨b, o + kk * 2, none⟩) hb6).trans hHeld.1, (hc4.cell (p := ⟨b, o + kk * 2 + 1, none⟩) hb6).trans hHeld.2⟩) (fun hHeld => ?_)
                        clear hK K
                        change wpAnyH _ _ _ _ _ _ _ (Act.put _ (some 63) _) _
                        simp only [Act.put, List.setIfInBounds_toArray, List.set_cons_zero, List.set_cons_succ]
                        clear hc4
                        refine wpAnyH_take (i := 9) (v := ?zv62021) rfl (by kernel_rfl) (by kernel_rfl) (by kernel_rfl) (fun _ _ _ h => h) (Or.inl ⟨by kernel_rfl, ?zy62021⟩) (by assumption) ?zr62021
                        case zy62021 => (intro w hSw; (try dsimp only at hSw); go_simp; try with_reducible rfl)
                        change wpAnyH _ _ _ _ _ _ _ (Act.put _ (some 10) _) _
                        simp only [Act.put, List.setIfInBounds_toArray, List.set_cons_zero, List.set_cons_succ]
                        refine wpAnyH_done (by kernel_rfl) ?_ _
                        have C1 := Lib.hid (winValid_any E2 e2 (xs.take kk ++ xs.drop (kk + 1)) V4 (own_asks LL4.out))
                        rw [HSP.out, HLS.out] at C1
                        go_wp2_with fail
                        refine C1.out.mono ?_
                        rintro e w7 ⟨rfl, hb7⟩
                        have FX := Lib.hid (FF4.out.below hb7)
                        have HB7 : Hid (Below w3.heap.size w3 w7) := HV4.out.trans (hb7.mono HV4.out.size)
                        clear hb7 C1
                        have C2 := Lib.hid (winValid_any F2 f2 (xs ++ [(⟨qp, qb⟩ : AD)]) w7 (own_asks FX.out))
                        rw [HL1.out, HMO2.out] at C2
                        go_wp2_with fail
                        refine C2.out.mono ?_
                        rintro e w8 ⟨rfl, hb8⟩
                        have HB8 : Hid (Below w3.heap.size w3 w8) := HB7.out.trans (hb8.mono HB7.out.size)
                        clear hb8 C2
                        go_wp2
                        all_goals (go_ret; exact ⟨rfl, HB3.out.trans (HB8.out.mono HB3.out.size)⟩)
                  case zo62018_1 =>
                    go_simp
                    refine hK.out _ _ (⟨(World.cell?_alloc_lt _ _ _ hbl1).trans hHeld.1, (World.cell?_alloc_lt _ _ _ hbl1).trans hHeld.2⟩) (fun hHeld => ?_)
                    clear hK K
                    (try simp only [Act.put, List.setIfInBounds_toArray, List.set_cons_zero, List.set_cons_succ])
                    have hgap : V1.heap.size ≠ V0.heap.size := Nat.ne_of_gt (own_lt FF1.out)
                    obtain ⟨V2, EV2⟩ : ∃ U, Hid (V1.alloc (.cells #[.int .i64 qp, .int .i64 qb] 25) = U) := ⟨_, rfl⟩
                    have hc2 : Below V1.heap.size V1 V2 := by rw [← EV2.out]; exact (Below.refl _ _).alloc (Nat.le_refl _) _
                    have HV2 : Hid (Below w3.heap.size w3 V2) := HV1.out.trans (hc2.mono HV1.out.size)
                    have LL2 := Lib.hid (LL1.out.below hc2)
                    have FF2 := Lib.hid (FF1.out.below hc2)
                    have GG2 : Hid (RowAt AK V2 V2.heap.size (some ⟨V1.heap.size, 0, none⟩) [(⟨qp, qb⟩ : AD)]) := by rw [← EV2.out]; exact one_newA V1 ⟨qp, qb⟩
                    have HZ2 : Hid (w6.heap.size ≤ V2.heap.size) := Nat.le_trans HZ1.out hc2.size
                    have hbl2 : b < V2.heap.size := Nat.lt_of_lt_of_le hbl1 hc2.size
                    clear hc2
                    rw [EV2.out]
                    rw [EV2.out] at hHeld
                    refine wpAnyH_ready (rs := [2]) (by kernel_rfl) (by simp) (AllReadyH.cons rfl (fun K hK => ?zo62022_0) AllReadyH.nil)
                    case zo62022_0 =>
                      refine step_app_row (K := AK) Try.underlying23 HI0.out.1 HI0.out.2.1 HI0.out.2.2.1 HI0.out.2.2.2.1 HI0.out.2.2.2.2 (by decide) rfl (.tmp 55) (.tmp 56) rfl V2 w6.heap.size (some ⟨V0.heap.size, 0, none⟩) 0 [] rfl (some ⟨b, o, none⟩) c xs (by rw [HN.out]; rfl) FF2.out (HRW.out V2 HV2.out) (by rw [HN.out]; simp; omega) HZ2.out (fun e => by cases e) ?_
                      intro v5 V3 hA
                      obtain ⟨F1, f1, rfl, ho5⟩ := hA.own
                      have hc3 : Below w6.heap.size V2 V3 := hA.below
                      have HV3 : Hid (Below w3.heap.size w3 V3) := HV2.out.trans (hc3.mono (by have := HW6.out.size; omega))
                      have LL3 := Lib.hid (row_low LL2.out hc3 hlow)
                      have GG3 := Lib.hid (one_kept GG2.out hA.grown hgap)
                      have HZ3 : Hid (w6.heap.size ≤ V3.heap.size) := Nat.le_trans HZ2.out hA.grown.size
                      have hbl3 : b < V3.heap.size := Nat.lt_of_lt_of_le hbl2 hA.grown.size
                      rw [List.nil_append] at ho5 ⊢
                      have FF3 := Lib.hid ho5
                      clear hA ho5
                      rw [HN.out]
                      refine hK.out _ _ (⟨(hc3.cell (p := ⟨b, o + kk * 2, none⟩) hb6).trans hHeld.1, (hc3.cell (p := ⟨b, o + kk * 2 + 1, none⟩) hb6).trans hHeld.2⟩) (fun hHeld => ?_)
                      clear hK K
                      change wpAnyH _ _ _ _ _ _ _ (Act.put _ (some 57) _) _
                      simp only [Act.put, List.setIfInBounds_toArray, List.set_cons_zero, List.set_cons_succ]
                      clear hc3
                      refine wpAnyH_ready (rs := [8]) (by kernel_rfl) (by simp) (AllReadyH.cons rfl (fun K hK => ?zo62023_0) AllReadyH.nil)
                      case zo62023_0 =>
                        refine step_app_row (K := AK) Try.underlying23 HI0.out.1 HI0.out.2.1 HI0.out.2.2.1 HI0.out.2.2.2.1 HI0.out.2.2.2.2 (by decide) rfl (.tmp 57) (.tmp 62) rfl V3 w6.heap.size F1 f1 xs (by rw [HN.out]; rfl) (some ⟨V1.heap.size, 0, none⟩) 1 [(⟨qp, qb⟩ : AD)] rfl FF3.out GG3.out (by rw [HN.out]; simp; omega) HZ3.out (fun e => by cases e) ?_
                        intro v5 V4 hA
                        obtain ⟨F2, f2, rfl, ho5⟩ := hA.own
                        have hc4 : Below w6.heap.size V3 V4 := hA.below
                        have HV4 : Hid (Below w3.heap.size w3 V4) := HV3.out.trans (hc4.mono (by have := HW6.out.size; omega))
                        have LL4 := Lib.hid (row_low LL3.out hc4 hlow)
                        have FF4 := Lib.hid ho5
                        clear hA ho5
                        rw [HL1.out]
                        refine hK.out _ _ (⟨(hc4.cell (p := ⟨b, o + kk * 2, none⟩) hb6).trans hHeld.1, (hc4.cell (p := ⟨b, o + kk * 2 + 1, none⟩) hb6).trans hHeld.2⟩) (fun hHeld => ?_)
                        clear hK K
                        change wpAnyH _ _ _ _ _ _ _ (Act.put _ (some 63) _) _
                        simp only [Act.put, List.setIfInBounds_toArray, List.set_cons_zero, List.set_cons_succ]
                        clear hc4
                        refine wpAnyH_take (i := 9) (v := ?zv62024) rfl (by kernel_rfl) (by kernel_rfl) (by kernel_rfl) (fun _ _ _ h => h) (Or.inl ⟨by kernel_rfl, ?zy62024⟩) (by assumption) ?zr62024
                        case zy62024 => (intro w hSw; (try dsimp only at hSw); go_simp; try with_reducible rfl)
                        change wpAnyH _ _ _ _ _ _ _ (Act.put _ (some 10) _) _
                        simp only [Act.put, List.setIfInBounds_toArray, List.set_cons_zero, List.set_cons_succ]
                        refine wpAnyH_done (by kernel_rfl) ?_ _
                        have C1 := Lib.hid (winValid_any E2 e2 (xs.take kk ++ xs.drop (kk + 1)) V4 (own_asks LL4.out))
                        rw [HSP.out, HLS.out] at C1
                        go_wp2_with fail
                        refine C1.out.mono ?_
                        rintro e w7 ⟨rfl, hb7⟩
                        have FX := Lib.hid (FF4.out.below hb7)
                        have HB7 : Hid (Below w3.heap.size w3 w7) := HV4.out.trans (hb7.mono HV4.out.size)
                        clear hb7 C1
                        have C2 := Lib.hid (winValid_any F2 f2 (xs ++ [(⟨qp, qb⟩ : AD)]) w7 (own_asks FX.out))
                        rw [HL1.out, HMO2.out] at C2
                        go_wp2_with fail
                        refine C2.out.mono ?_
                        rintro e w8 ⟨rfl, hb8⟩
                        have HB8 : Hid (Below w3.heap.size w3 w8) := HB7.out.trans (hb8.mono HB7.out.size)
                        clear hb8 C2
                        go_wp2
                        all_goals (go_ret; exact ⟨rfl, HB3.out.trans (HB8.out.mono HB3.out.size)⟩)
                case zo62017_1 =>
                  go_simp
                  refine hK.out _ _ (⟨(World.cell?_alloc_lt _ _ _ hbl0).trans hHeld.1, (World.cell?_alloc_lt _ _ _ hbl0).trans hHeld.2⟩) (fun hHeld => ?_)
                  clear hK K
                  (try simp only [Act.put, List.setIfInBounds_toArray, List.set_cons_zero, List.set_cons_succ])
                  obtain ⟨V1, EV1⟩ : ∃ U, Hid (V0.alloc (.cells #[.int .i64 qp, .int .i64 qb] 25) = U) := ⟨_, rfl⟩
                  have hc1 : Below V0.heap.size V0 V1 := by rw [← EV1.out]; exact (Below.refl _ _).alloc (Nat.le_refl _) _
                  have HV1 : Hid (Below w3.heap.size w3 V1) := HV0.out.trans (hc1.mono HV0.out.size)
                  have LL1 := Lib.hid (LL0.out.below hc1)
                  have GG1 : Hid (RowAt AK V1 V1.heap.size (some ⟨V0.heap.size, 0, none⟩) [(⟨qp, qb⟩ : AD)]) := by rw [← EV1.out]; exact one_newA V0 ⟨qp, qb⟩
                  have HZ1 : Hid (w6.heap.size ≤ V1.heap.size) := Nat.le_trans HZ0.out hc1.size
                  have hbl1 : b < V1.heap.size := Nat.lt_of_lt_of_le hbl0 hc1.size
                  clear hc1
                  rw [EV1.out]
                  rw [EV1.out] at hHeld
                  refine wpAnyH_ready (rs := [0]) (by kernel_rfl) (by simp) (AllReadyH.cons rfl (fun K hK => ?zo62025_0) AllReadyH.nil)
                  case zo62025_0 =>
                    go_simp
                    refine hK.out _ _ (⟨(World.cell?_alloc_lt _ _ _ hbl1).trans hHeld.1, (World.cell?_alloc_lt _ _ _ hbl1).trans hHeld.2⟩) (fun hHeld => ?_)
                    clear hK K
                    (try simp only [Act.put, List.setIfInBounds_toArray, List.set_cons_zero, List.set_cons_succ])
                    have hgap : V0.heap.size ≠ V1.heap.size := Nat.ne_of_lt (GG1.out.lt (Nat.succ_pos 0)).1
                    obtain ⟨V2, EV2⟩ : ∃ U, Hid (V1.alloc (.cells #[] 25) = U) := ⟨_, rfl⟩
                    have hc2 : Below V1.heap.size V1 V2 := by rw [← EV2.out]; exact (Below.refl _ _).alloc (Nat.le_refl _) _
                    have HV2 : Hid (Below w3.heap.size w3 V2) := HV1.out.trans (hc2.mono HV1.out.size)
                    have LL2 := Lib.hid (LL1.out.below hc2)
                    have GG2 := Lib.hid (GG1.out.belowS hc2)
                    have FF2 : Hid (OwnRow AK V2 w6.heap.size (some ⟨V1.heap.size, 0, none⟩) 0 []) := by rw [← EV2.out]; exact (OwnRow.new AK V1).base_le HZ1.out
                    have HZ2 : Hid (w6.heap.size ≤ V2.heap.size) := Nat.le_trans HZ1.out hc2.size
                    have hbl2 : b < V2.heap.size := Nat.lt_of_lt_of_le hbl1 hc2.size
                    clear hc2
                    rw [EV2.out]
                    rw [EV2.out] at hHeld
                    refine wpAnyH_ready (rs := [2]) (by kernel_rfl) (by simp) (AllReadyH.cons rfl (fun K hK => ?zo62026_0) AllReadyH.nil)
                    case zo62026_0 =>
                      refine step_app_row (K := AK) Try.underlying23 HI0.out.1 HI0.out.2.1 HI0.out.2.2.1 HI0.out.2.2.2.1 HI0.out.2.2.2.2 (by decide) rfl (.tmp 55) (.tmp 56) rfl V2 w6.heap.size (some ⟨V1.heap.size, 0, none⟩) 0 [] rfl (some ⟨b, o, none⟩) c xs (by rw [HN.out]; rfl) FF2.out (HRW.out V2 HV2.out) (by rw [HN.out]; simp; omega) HZ2.out (fun e => by cases e) ?_
                      intro v5 V3 hA
                      obtain ⟨F1, f1, rfl, ho5⟩ := hA.own
                      have hc3 : Below w6.heap.size V2 V3 := hA.below
                      have HV3 : Hid (Below w3.heap.size w3 V3) := HV2.out.trans (hc3.mono (by have := HW6.out.size; omega))
                      have LL3 := Lib.hid (row_low LL2.out hc3 hlow)
                      have GG3 := Lib.hid (one_kept GG2.out hA.grown hgap)
                      have HZ3 : Hid (w6.heap.size ≤ V3.heap.size) := Nat.le_trans HZ2.out hA.grown.size
                      have hbl3 : b < V3.heap.size := Nat.lt_of_lt_of_le hbl2 hA.grown.size
                      rw [List.nil_append] at ho5 ⊢
                      have FF3 := Lib.hid ho5
                      clear hA ho5
                      rw [HN.out]
                      refine hK.out _ _ (⟨(hc3.cell (p := ⟨b, o + kk * 2, none⟩) hb6).trans hHeld.1, (hc3.cell (p := ⟨b, o + kk * 2 + 1, none⟩) hb6).trans hHeld.2⟩) (fun hHeld => ?_)
                      clear hK K
                      change wpAnyH _ _ _ _ _ _ _ (Act.put _ (some 57) _) _
                      simp only [Act.put, List.setIfInBounds_toArray, List.set_cons_zero, List.set_cons_succ]
                      clear hc3
                      refine wpAnyH_ready (rs := [8]) (by kernel_rfl) (by simp) (AllReadyH.cons rfl (fun K hK => ?zo62027_0) AllReadyH.nil)
                      case zo62027_0 =>
                        refine step_app_row (K := AK) Try.underlying23 HI0.out.1 HI0.out.2.1 HI0.out.2.2.1 HI0.out.2.2.2.1 HI0.out.2.2.2.2 (by decide) rfl (.tmp 57) (.tmp 62) rfl V3 w6.heap.size F1 f1 xs (by rw [HN.out]; rfl) (some ⟨V0.heap.size, 0, none⟩) 1 [(⟨qp, qb⟩ : AD)] rfl FF3.out GG3.out (by rw [HN.out]; simp; omega) HZ3.out (fun e => by cases e) ?_
                        intro v5 V4 hA
                        obtain ⟨F2, f2, rfl, ho5⟩ := hA.own
                        have hc4 : Below w6.heap.size V3 V4 := hA.below
                        have HV4 : Hid (Below w3.heap.size w3 V4) := HV3.out.trans (hc4.mono (by have := HW6.out.size; omega))
                        have LL4 := Lib.hid (row_low LL3.out hc4 hlow)
                        have FF4 := Lib.hid ho5
                        clear hA ho5
                        rw [HL1.out]
                        refine hK.out _ _ (⟨(hc4.cell (p := ⟨b, o + kk * 2, none⟩) hb6).trans hHeld.1, (hc4.cell (p := ⟨b, o + kk * 2 + 1, none⟩) hb6).trans hHeld.2⟩) (fun hHeld => ?_)
                        clear hK K
                        change wpAnyH _ _ _ _ _ _ _ (Act.put _ (some 63) _) _
                        simp only [Act.put, List.setIfInBounds_toArray, List.set_cons_zero, List.set_cons_succ]
                        clear hc4
                        refine wpAnyH_take (i := 9) (v := ?zv62028) rfl (by kernel_rfl) (by kernel_rfl) (by kernel_rfl) (fun _ _ _ h => h) (Or.inl ⟨by kernel_rfl, ?zy62028⟩) (by assumption) ?zr62028
                        case zy62028 => (intro w hSw; (try dsimp only at hSw); go_simp; try with_reducible rfl)
                        change wpAnyH _ _ _ _ _ _ _ (Act.put _ (some 10) _) _
                        simp only [Act.put, List.setIfInBounds_toArray, List.set_cons_zero, List.set_cons_succ]
                        refine wpAnyH_done (by kernel_rfl) ?_ _
                        have C1 := Lib.hid (winValid_any E2 e2 (xs.take kk ++ xs.drop (kk + 1)) V4 (own_asks LL4.out))
                        rw [HSP.out, HLS.out] at C1
                        go_wp2_with fail
                        refine C1.out.mono ?_
                        rintro e w7 ⟨rfl, hb7⟩
                        have FX := Lib.hid (FF4.out.below hb7)
                        have HB7 : Hid (Below w3.heap.size w3 w7) := HV4.out.trans (hb7.mono HV4.out.size)
                        clear hb7 C1
                        have C2 := Lib.hid (winValid_any F2 f2 (xs ++ [(⟨qp, qb⟩ : AD)]) w7 (own_asks FX.out))
                        rw [HL1.out, HMO2.out] at C2
                        go_wp2_with fail
                        refine C2.out.mono ?_
                        rintro e w8 ⟨rfl, hb8⟩
                        have HB8 : Hid (Below w3.heap.size w3 w8) := HB7.out.trans (hb8.mono HB7.out.size)
                        clear hb8 C2
                        go_wp2
                        all_goals (go_ret; exact ⟨rfl, HB3.out.trans (HB8.out.mono HB3.out.size)⟩)
    · have h9 : 1048576 < len1 := by omega
      clear hlen1
      go_enter Try.func5, Try.ntmps5
      go_wp2
      go_ret
      exact ⟨rfl, Below.refl _ _⟩
  · have h9 : 1048576 < len := by omega
    clear hlen
    go_enter Try.func5, Try.ntmps5
    go_wp2
    go_ret
    exact ⟨rfl, Below.refl _ _⟩

end Go.Proofs.Ytccadanhadakkaa
