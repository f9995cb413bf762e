/- Contract of the model's WindowValid: it answers as the data say. Condition: the requests lie in memory. -/
import Derived.Test.YtkmebilhbjcfpaaGreatBaseA
import Derived.Test.YtkmebilhbjcfpaaGreatSWin
namespace Go.Proofs.YtkmebilhbjcfpaaGreat
open Go.RowKit
set_option linter.unusedVariables false

set_option maxHeartbeats 4000000 in
set_option maxRecDepth 100000 in
theorem swinValid_any (A : Option Addr) (cap : Nat) (xs : List AD) (w : World) (hA : AsksAt w w.heap.size A cap xs) :
    Calls Tryz.prog 25 #[.slice A xs.length cap] w fun e w' => e = .returned (.bool (winB xs)) ∧ Below w.heap.size w w' := by
  have HA := Lib.hid hA
  have hle := hA.le
  have hmx := hA.most
  unfold maxLen at hmx
  clear hA
  obtain ⟨n, HN⟩ : ∃ n, Hid (xs.length = n) := ⟨_, rfl⟩
  rw [HN.out] at hle ⊢
  go_enter Tryz.func25, Tryz.ntmps25
  go_wp2
  go_loopw [3] (fun i w' => ∃ k : Nat, k ≤ n ∧ i = .int .i64 (k : Int) ∧ Hid (Below w.heap.size w w') ∧ Hid (∀ j, j < k → fitS xs j = true)) (fun i _ => n - (intOf i).toNat)
  case atStart => exact ⟨0, Nat.zero_le _, rfl, Below.refl _ _, fun j hj => absurd hj (Nat.not_lt_zero _)⟩
  case round =>
    obtain ⟨k, hk, rfl, HB, HG⟩ := hrel
    by_cases hlt : k < n
    · have hkz : k < xs.length := by rw [HN.out]; exact hlt
      have hj := HA.out.belowS HB.out
      obtain ⟨b, o, rfl⟩ := hj.row.some_ (by omega)
      have HJ := Lib.hid hj
      obtain ⟨ap, HRI⟩ : ∃ x, Hid ((ath xs k).p = x) := ⟨_, rfl⟩
      obtain ⟨ab, HRT⟩ : ∃ x, Hid ((ath xs k).b = x) := ⟨_, rfl⟩
      have HONE : Hid (ath xs k = ⟨ap, ab⟩) := by
        show _ = _
        rw [← HRI.out, ← HRT.out]
      have H : Hid (wr.cell? ⟨b, o + k * 2, none⟩ = some (.int .i64 ap) ∧ wr.cell? ⟨b, o + k * 2 + 1, none⟩ = some (.int .i64 ab)) := by
        have h := ask_cells hj.row k hkz
        rw [HRI.out, HRT.out] at h
        exact h
      obtain ⟨nh, HNH⟩ : ∃ m, Hid (cH (xs.take k) ⟨ap, ab⟩ = m) := ⟨_, rfl⟩
      obtain ⟨np, HNP⟩ : ∃ m, Hid (cP xs ap = m) := ⟨_, rfl⟩
      obtain ⟨nb, HNB⟩ : ∃ m, Hid (cB xs ab = m) := ⟨_, rfl⟩
      have HFIT : Hid (fitS xs k = (aOk ⟨ap, ab⟩ && (decide (nh = 0) && (decide (np ≤ 3) && decide (nb ≤ 2))))) := by
        show _ = _
        unfold fitS
        rw [HONE.out, ← HNH.out, ← HNP.out, ← HNB.out]
      have HNO : Hid (fitS xs k = false → winB xs = false) := win_no_fitS hkz
      have HLT : Hid ((xs.take k).length = k) := by show _ = _; rw [List.length_take]; omega
      have C1 : Hid (∀ U, Calls Tryz.prog 62 #[.agg #[.int .i64 ap, .int .i64 ab]] U fun e w' => e = .returned (.bool (aOk ⟨ap, ab⟩)) ∧ Below U.heap.size U w') := fun U => sask_any ⟨ap, ab⟩ U
      have C2 : Hid (∀ U, Below wr.heap.size wr U → Calls Tryz.prog 63 #[.slice (some ⟨b, o, none⟩) k cap, .agg #[.int .i64 ap, .int .i64 ab]] U fun e w' => e = .returned (.bool (decide (0 < nh))) ∧ Below U.heap.size U w') := fun U hU => by
        have h := shas_any (some ⟨b, o, none⟩) cap (xs.take k) ⟨ap, ab⟩ U ((HJ.out.belowS hU).first k)
        rw [HLT.out, HNH.out] at h
        exact h
      have C3 : Hid (∀ U, Below wr.heap.size wr U → Calls Tryz.prog 64 #[.slice (some ⟨b, o, none⟩) n cap, .int .i64 ap] U fun e w' => e = .returned (.int .i64 (np : Int)) ∧ Below U.heap.size U w') := fun U hU => by
        have h := speer_any (some ⟨b, o, none⟩) cap xs ap U (HJ.out.belowS hU)
        rw [HN.out, show xs.countP (isP ap) = np from HNP.out] at h
        exact h
      have C4 : Hid (∀ U, Below wr.heap.size wr U → Calls Tryz.prog 65 #[.slice (some ⟨b, o, none⟩) n cap, .int .i64 ab] U fun e w' => e = .returned (.int .i64 (nb : Int)) ∧ Below U.heap.size U w') := fun U hU => by
        have h := sblock_any (some ⟨b, o, none⟩) cap xs ab U (HJ.out.belowS hU)
        rw [HN.out, show xs.countP (isB ab) = nb from HNB.out] at h
        exact h
      have hk0 : (0 : Int) ≤ (k : Int) := by omega
      have hki : (k : Int) < (n : Int) := by omega
      have hkc : (k : Int) ≤ (cap : Int) := by omega
      clear hj hkz
      cases ho : aOk ⟨ap, ab⟩ with
      | false =>
        rw [ho] at C1
        have HOF := Lib.hid ho
        clear ho
        have HNW : Hid (winB xs = false) := HNO.out (by rw [HFIT.out, HOF.out, Bool.false_and])
        have HF : Hid (winB xs = false) := HNW
        go_wp2_with fail
        refine wp_region_held_drew (S := (fun w' => w'.cell? ⟨b, o + k * 2, none⟩ = some (.int .i64 ap) ∧ w'.cell? ⟨b, o + k * 2 + 1, none⟩ = some (.int .i64 ab))) (by kernel_rfl) (H.out) (fun hHeld => ?_)
        refine wtk 0 ?zv21033 10 rfl rfl (by kernel_rfl) (fun _ _ _ h => h) (by kernel_rfl) ?zy21033 (by assumption) ?zr21033
        case zy21033 => (intro w hSw; (try dsimp only at hSw); go_simp; try with_reducible rfl)
        simp only [Act.put, aput]
        refine wtk 1 ?zv21034 11 rfl rfl (by kernel_rfl) (fun _ _ _ h => h) (by kernel_rfl) ?zy21034 (by assumption) ?zr21034
        case zy21034 => (intro w hSw; (try dsimp only at hSw); go_simp; try with_reducible rfl)
        simp only [Act.put, aput]
        refine wtk 2 ?zv21035 12 rfl rfl (by kernel_rfl) (fun _ _ _ h => h) (by kernel_rfl) ?zy21035 (by assumption) ?zr21035
        case zy21035 => (intro w hSw; (try dsimp only at hSw); go_simp; try with_reducible rfl)
        simp only [Act.put, aput]
        refine wtk 3 ?zv21036 13 rfl rfl (by kernel_rfl) (fun _ _ _ h => h) (by kernel_rfl) ?zy21036 (by assumption) ?zr21036
        case zy21036 => (intro w hSw; (try dsimp only at hSw); go_simp; try with_reducible rfl)
        simp only [Act.put, aput]
        refine wpAnyH_ready (rs := [4]) (by kernel_rfl) (by simp) (AllReadyH.cons rfl (fun K hK => ?_) AllReadyH.nil)
        go_simp
        go_at_call 62
        refine (C1.out _).mono ?_
        rintro e w1 ⟨rfl, hb1⟩
        have HB1 : Hid (Below wr.heap.size wr w1) := below_drew_l hb1
        have H1 := Lib.hid (two_keep H.out HB1.out)
        clear hb1
        refine hK.out _ _ (H1.out) (fun hHeld => ?_)
        clear hK K
        (try simp only [Act.put, aput])
        refine wtk 5 ?zv21037 15 rfl rfl (by kernel_rfl) (fun _ _ _ h => h) (by kernel_rfl) ?zy21037 (by assumption) ?zr21037
        case zy21037 => (intro w hSw; (try dsimp only at hSw); go_simp; try with_reducible rfl)
        simp only [Act.put, aput]
        refine wtk 6 ?zv21038 16 rfl rfl (by kernel_rfl) (fun _ _ _ h => h) (by kernel_rfl) ?zy21038 (by assumption) ?zr21038
        case zy21038 => (intro w hSw; (try dsimp only at hSw); go_simp; try with_reducible rfl)
        simp only [Act.put, aput]
        refine wtu 7 17 rfl rfl (by kernel_rfl) (fun _ _ _ h => h) (by kernel_rfl) (by assumption) ?_
        simp only [Act.put, aput]
        refine wtu 8 18 rfl rfl (by kernel_rfl) (fun _ _ _ h => h) (by kernel_rfl) (by assumption) ?_
        simp only [Act.put, aput]
        refine wtu 9 19 rfl rfl (by kernel_rfl) (fun _ _ _ h => h) (by kernel_rfl) (by assumption) ?_
        simp only [Act.put, aput]
        refine wtu 10 20 rfl rfl (by kernel_rfl) (fun _ _ _ h => h) (by kernel_rfl) (by assumption) ?_
        simp only [Act.put, aput]
        refine wtu 11 21 rfl rfl (by kernel_rfl) (fun _ _ _ h => h) (by kernel_rfl) (by assumption) ?_
        simp only [Act.put, aput]
        refine wtu 12 22 rfl rfl (by kernel_rfl) (fun _ _ _ h => h) (by kernel_rfl) (by assumption) ?_
        simp only [Act.put, aput]
        refine wtu 13 23 rfl rfl (by kernel_rfl) (fun _ _ _ h => h) (by kernel_rfl) (by assumption) ?_
        simp only [Act.put, aput]
        refine wtu 14 24 rfl rfl (by kernel_rfl) (fun _ _ _ h => h) (by kernel_rfl) (by assumption) ?_
        simp only [Act.put, aput]
        refine wtk 15 ?zv21039 25 rfl rfl (by kernel_rfl) (fun _ _ _ h => h) (by kernel_rfl) ?zy21039 (by assumption) ?zr21039
        case zy21039 => (intro w hSw; (try dsimp only at hSw); go_simp; try with_reducible rfl)
        simp only [Act.put, aput]
        refine wtk 16 ?zv21040 26 rfl rfl (by kernel_rfl) (fun _ _ _ h => h) (by kernel_rfl) ?zy21040 (by assumption) ?zr21040
        case zy21040 => (intro w hSw; (try dsimp only at hSw); go_simp; try with_reducible rfl)
        simp only [Act.put, aput]
        refine wtu 17 27 rfl rfl (by kernel_rfl) (fun _ _ _ h => h) (by kernel_rfl) (by assumption) ?_
        simp only [Act.put, aput]
        refine wtu 18 28 rfl rfl (by kernel_rfl) (fun _ _ _ h => h) (by kernel_rfl) (by assumption) ?_
        simp only [Act.put, aput]
        refine wtu 19 29 rfl rfl (by kernel_rfl) (fun _ _ _ h => h) (by kernel_rfl) (by assumption) ?_
        simp only [Act.put, aput]
        refine wtu 20 30 rfl rfl (by kernel_rfl) (fun _ _ _ h => h) (by kernel_rfl) (by assumption) ?_
        simp only [Act.put, aput]
        refine wtu 21 31 rfl rfl (by kernel_rfl) (fun _ _ _ h => h) (by kernel_rfl) (by assumption) ?_
        simp only [Act.put, aput]
        refine wtu 22 32 rfl rfl (by kernel_rfl) (fun _ _ _ h => h) (by kernel_rfl) (by assumption) ?_
        simp only [Act.put, aput]
        refine wtu 23 33 rfl rfl (by kernel_rfl) (fun _ _ _ h => h) (by kernel_rfl) (by assumption) ?_
        simp only [Act.put, aput]
        refine wtu 24 34 rfl rfl (by kernel_rfl) (fun _ _ _ h => h) (by kernel_rfl) (by assumption) ?_
        simp only [Act.put, aput]
        refine wtk 25 ?zv21041 35 rfl rfl (by kernel_rfl) (fun _ _ _ h => h) (by kernel_rfl) ?zy21041 (by assumption) ?zr21041
        case zy21041 => (intro w hSw; (try dsimp only at hSw); go_simp; try with_reducible rfl)
        simp only [Act.put, aput]
        refine wtk 26 ?zv21042 36 rfl rfl (by kernel_rfl) (fun _ _ _ h => h) (by kernel_rfl) ?zy21042 (by assumption) ?zr21042
        case zy21042 => (intro w hSw; (try dsimp only at hSw); go_simp; try with_reducible rfl)
        simp only [Act.put, aput]
        refine wtu 27 37 rfl rfl (by kernel_rfl) (fun _ _ _ h => h) (by kernel_rfl) (by assumption) ?_
        simp only [Act.put, aput]
        refine wtu 28 38 rfl rfl (by kernel_rfl) (fun _ _ _ h => h) (by kernel_rfl) (by assumption) ?_
        simp only [Act.put, aput]
        refine wtu 29 39 rfl rfl (by kernel_rfl) (fun _ _ _ h => h) (by kernel_rfl) (by assumption) ?_
        simp only [Act.put, aput]
        refine wtu 30 40 rfl rfl (by kernel_rfl) (fun _ _ _ h => h) (by kernel_rfl) (by assumption) ?_
        simp only [Act.put, aput]
        refine wtu 31 41 rfl rfl (by kernel_rfl) (fun _ _ _ h => h) (by kernel_rfl) (by assumption) ?_
        simp only [Act.put, aput]
        refine wtu 32 42 rfl rfl (by kernel_rfl) (fun _ _ _ h => h) (by kernel_rfl) (by assumption) ?_
        simp only [Act.put, aput]
        refine wtu 33 43 rfl rfl (by kernel_rfl) (fun _ _ _ h => h) (by kernel_rfl) (by assumption) ?_
        simp only [Act.put, aput]
        refine wtu 34 44 rfl rfl (by kernel_rfl) (fun _ _ _ h => h) (by kernel_rfl) (by assumption) ?_
        simp only [Act.put, aput]
        refine wtk 35 ?zv21043 45 rfl rfl (by kernel_rfl) (fun _ _ _ h => h) (by kernel_rfl) ?zy21043 (by assumption) ?zr21043
        case zy21043 => (intro w hSw; (try dsimp only at hSw); go_simp; try with_reducible rfl)
        simp only [Act.put, aput]
        refine wpAnyH_done (by kernel_rfl) ?_ _
        have HBX : Hid (Below w.heap.size w w1) := HB.out.trans (HB1.out.mono HB.out.size)
        go_wp2
        go_ret
        exact ⟨ret_bool (by have h := HF.out; first | exact h.symm | (rw [h]; simp; omega) | (rw [h]; simp)), HBX.out⟩
      | true =>
        rw [ho] at C1
        have HOT := Lib.hid ho
        clear ho
        by_cases h1 : nh = 0
        · rw [decide_eq_false (show ¬ 0 < nh by omega)] at C2
          by_cases h2 : np ≤ 3
          · have h2i : decide (3 < (np : Int)) = false := by simp; omega
            by_cases h3 : nb ≤ 2
            · have h3i : decide (2 < (nb : Int)) = false := by simp; omega
              have HY : Hid (fitS xs k = true) := by show _ = _; rw [HFIT.out, HOT.out, decide_eq_true h1, decide_eq_true h2, decide_eq_true h3]; rfl
              have HG3 : Hid (∀ j, j < k + 1 → fitS xs j = true) := fun j hj => by
                by_cases e : j = k
                · subst e; exact HY.out
                · exact HG.out j (by omega)
              go_wp2_with fail
              refine wp_region_held_drew (S := (fun w' => w'.cell? ⟨b, o + k * 2, none⟩ = some (.int .i64 ap) ∧ w'.cell? ⟨b, o + k * 2 + 1, none⟩ = some (.int .i64 ab))) (by kernel_rfl) (H.out) (fun hHeld => ?_)
              refine wtk 0 ?zv21001 10 rfl rfl (by kernel_rfl) (fun _ _ _ h => h) (by kernel_rfl) ?zy21001 (by assumption) ?zr21001
              case zy21001 => (intro w hSw; (try dsimp only at hSw); go_simp; try with_reducible rfl)
              simp only [Act.put, aput]
              refine wtk 1 ?zv21002 11 rfl rfl (by kernel_rfl) (fun _ _ _ h => h) (by kernel_rfl) ?zy21002 (by assumption) ?zr21002
              case zy21002 => (intro w hSw; (try dsimp only at hSw); go_simp; try with_reducible rfl)
              simp only [Act.put, aput]
              refine wtk 2 ?zv21003 12 rfl rfl (by kernel_rfl) (fun _ _ _ h => h) (by kernel_rfl) ?zy21003 (by assumption) ?zr21003
              case zy21003 => (intro w hSw; (try dsimp only at hSw); go_simp; try with_reducible rfl)
              simp only [Act.put, aput]
              refine wtk 3 ?zv21004 13 rfl rfl (by kernel_rfl) (fun _ _ _ h => h) (by kernel_rfl) ?zy21004 (by assumption) ?zr21004
              case zy21004 => (intro w hSw; (try dsimp only at hSw); go_simp; try with_reducible rfl)
              simp only [Act.put, aput]
              refine wpAnyH_ready (rs := [4]) (by kernel_rfl) (by simp) (AllReadyH.cons rfl (fun K hK => ?_) AllReadyH.nil)
              go_simp
              go_at_call 62
              refine (C1.out _).mono ?_
              rintro e w1 ⟨rfl, hb1⟩
              have HB1 : Hid (Below wr.heap.size wr w1) := below_drew_l hb1
              have H1 := Lib.hid (two_keep H.out HB1.out)
              clear hb1
              refine hK.out _ _ (H1.out) (fun hHeld => ?_)
              clear hK K
              (try simp only [Act.put, aput])
              refine wtk 5 ?zv21005 15 rfl rfl (by kernel_rfl) (fun _ _ _ h => h) (by kernel_rfl) ?zy21005 (by assumption) ?zr21005
              case zy21005 => (intro w hSw; (try dsimp only at hSw); go_simp; try with_reducible rfl)
              simp only [Act.put, aput]
              refine wtk 6 ?zv21006 16 rfl rfl (by kernel_rfl) (fun _ _ _ h => h) (by kernel_rfl) ?zy21006 (by assumption) ?zr21006
              case zy21006 => (intro w hSw; (try dsimp only at hSw); go_simp; try with_reducible rfl)
              simp only [Act.put, aput]
              refine wtk 7 ?zv21007 17 rfl rfl (by kernel_rfl) (fun _ _ _ h => h) (by kernel_rfl) ?zy21007 (by assumption) ?zr21007
              case zy21007 => (intro w hSw; (try dsimp only at hSw); go_simp; try with_reducible rfl)
              simp only [Act.put, aput]
              refine wtk 8 ?zv21008 18 rfl rfl (by kernel_rfl) (fun _ _ _ h => h) (by kernel_rfl) ?zy21008 (by assumption) ?zr21008
              case zy21008 => (intro w hSw; (try dsimp only at hSw); go_simp; try with_reducible rfl)
              simp only [Act.put, aput]
              refine wtk 9 ?zv21009 19 rfl rfl (by kernel_rfl) (fun _ _ _ h => h) (by kernel_rfl) ?zy21009 (by assumption) ?zr21009
              case zy21009 => (intro w hSw; (try dsimp only at hSw); go_simp; try with_reducible rfl)
              simp only [Act.put, aput]
              refine wtk 10 ?zv21010 20 rfl rfl (by kernel_rfl) (fun _ _ _ h => h) (by kernel_rfl) ?zy21010 (by assumption) ?zr21010
              case zy21010 => (intro w hSw; (try dsimp only at hSw); go_simp; try with_reducible rfl)
              simp only [Act.put, aput]
              refine wtk 11 ?zv21011 21 rfl rfl (by kernel_rfl) (fun _ _ _ h => h) (by kernel_rfl) ?zy21011 (by assumption) ?zr21011
              case zy21011 => (intro w hSw; (try dsimp only at hSw); go_simp; try with_reducible rfl)
              simp only [Act.put, aput]
              refine wtk 12 ?zv21012 22 rfl rfl (by kernel_rfl) (fun _ _ _ h => h) (by kernel_rfl) ?zy21012 (by assumption) ?zr21012
              case zy21012 => (intro w hSw; (try dsimp only at hSw); go_simp; try with_reducible rfl)
              simp only [Act.put, aput]
              refine wtk 13 ?zv21013 23 rfl rfl (by kernel_rfl) (fun _ _ _ h => h) (by kernel_rfl) ?zy21013 (by assumption) ?zr21013
              case zy21013 => (intro w hSw; (try dsimp only at hSw); go_simp; try with_reducible rfl)
              simp only [Act.put, aput]
              refine wpAnyH_ready (rs := [14]) (by kernel_rfl) (by simp) (AllReadyH.cons rfl (fun K hK => ?_) AllReadyH.nil)
              go_simp
              go_at_call 63
              refine (C2.out _ HB1.out).mono ?_
              rintro e w2 ⟨rfl, hb2⟩
              have HB2 : Hid (Below wr.heap.size wr w2) := HB1.out.trans (hb2.mono HB1.out.size)
              have H2 := Lib.hid (two_keep H1.out hb2)
              clear hb2
              refine hK.out _ _ (H2.out) (fun hHeld => ?_)
              clear hK K
              (try simp only [Act.put, aput])
              refine wtk 15 ?zv21014 25 rfl rfl (by kernel_rfl) (fun _ _ _ h => h) (by kernel_rfl) ?zy21014 (by assumption) ?zr21014
              case zy21014 => (intro w hSw; (try dsimp only at hSw); go_simp; try with_reducible rfl)
              simp only [Act.put, aput]
              refine wtk 16 ?zv21015 26 rfl rfl (by kernel_rfl) (fun _ _ _ h => h) (by kernel_rfl) ?zy21015 (by assumption) ?zr21015
              case zy21015 => (intro w hSw; (try dsimp only at hSw); go_simp; try with_reducible rfl)
              simp only [Act.put, aput]
              refine wtk 17 ?zv21016 27 rfl rfl (by kernel_rfl) (fun _ _ _ h => h) (by kernel_rfl) ?zy21016 (by assumption) ?zr21016
              case zy21016 => (intro w hSw; (try dsimp only at hSw); go_simp; try with_reducible rfl)
              simp only [Act.put, aput]
              refine wtk 18 ?zv21017 28 rfl rfl (by kernel_rfl) (fun _ _ _ h => h) (by kernel_rfl) ?zy21017 (by assumption) ?zr21017
              case zy21017 => (intro w hSw; (try dsimp only at hSw); go_simp; try with_reducible rfl)
              simp only [Act.put, aput]
              refine wtk 19 ?zv21018 29 rfl rfl (by kernel_rfl) (fun _ _ _ h => h) (by kernel_rfl) ?zy21018 (by assumption) ?zr21018
              case zy21018 => (intro w hSw; (try dsimp only at hSw); go_simp; try with_reducible rfl)
              simp only [Act.put, aput]
              refine wtk 20 ?zv21019 30 rfl rfl (by kernel_rfl) (fun _ _ _ h => h) (by kernel_rfl) ?zy21019 (by assumption) ?zr21019
              case zy21019 => (intro w hSw; (try dsimp only at hSw); go_simp; try with_reducible rfl)
              simp only [Act.put, aput]
              refine wtk 21 ?zv21020 31 rfl rfl (by kernel_rfl) (fun _ _ _ h => h) (by kernel_rfl) ?zy21020 (by assumption) ?zr21020
              case zy21020 => (intro w hSw; (try dsimp only at hSw); go_simp; try with_reducible rfl)
              simp only [Act.put, aput]
              refine wtk 22 ?zv21021 32 rfl rfl (by kernel_rfl) (fun _ _ _ h => h) (by kernel_rfl) ?zy21021 (by assumption) ?zr21021
              case zy21021 => (intro w hSw; (try dsimp only at hSw); go_simp; try with_reducible rfl)
              simp only [Act.put, aput]
              refine wpAnyH_ready (rs := [23]) (by kernel_rfl) (by simp) (AllReadyH.cons rfl (fun K hK => ?_) AllReadyH.nil)
              go_simp
              go_at_call 64
              refine (C3.out _ HB2.out).mono ?_
              rintro e w3 ⟨rfl, hb3⟩
              have HB3 : Hid (Below wr.heap.size wr w3) := HB2.out.trans (hb3.mono HB2.out.size)
              have H3 := Lib.hid (two_keep H2.out hb3)
              clear hb3
              refine hK.out _ _ (H3.out) (fun hHeld => ?_)
              clear hK K
              (try simp only [Act.put, aput])
              refine wtk 24 ?zv21022 34 rfl rfl (by kernel_rfl) (fun _ _ _ h => h) (by kernel_rfl) ?zy21022 (by assumption) ?zr21022
              case zy21022 => (intro w hSw; (try dsimp only at hSw); go_simp; try with_reducible rfl)
              simp only [Act.put, aput]
              refine wtk 25 ?zv21023 35 rfl rfl (by kernel_rfl) (fun _ _ _ h => h) (by kernel_rfl) ?zy21023 (by assumption) ?zr21023
              case zy21023 => (intro w hSw; (try dsimp only at hSw); go_simp; try with_reducible rfl)
              simp only [Act.put, aput]
              refine wtk 26 ?zv21024 36 rfl rfl (by kernel_rfl) (fun _ _ _ h => h) (by kernel_rfl) ?zy21024 (by assumption) ?zr21024
              case zy21024 => (intro w hSw; (try dsimp only at hSw); go_simp; try with_reducible rfl)
              simp only [Act.put, aput]
              refine wtk 27 ?zv21025 37 rfl rfl (by kernel_rfl) (fun _ _ _ h => h) (by kernel_rfl) ?zy21025 (by assumption) ?zr21025
              case zy21025 => (intro w hSw; (try dsimp only at hSw); go_simp; try with_reducible rfl)
              simp only [Act.put, aput]
              refine wtk 28 ?zv21026 38 rfl rfl (by kernel_rfl) (fun _ _ _ h => h) (by kernel_rfl) ?zy21026 (by assumption) ?zr21026
              case zy21026 => (intro w hSw; (try dsimp only at hSw); go_simp; try with_reducible rfl)
              simp only [Act.put, aput]
              refine wtk 29 ?zv21027 39 rfl rfl (by kernel_rfl) (fun _ _ _ h => h) (by kernel_rfl) ?zy21027 (by assumption) ?zr21027
              case zy21027 => (intro w hSw; (try dsimp only at hSw); go_simp; try with_reducible rfl)
              simp only [Act.put, aput]
              refine wtk 30 ?zv21028 40 rfl rfl (by kernel_rfl) (fun _ _ _ h => h) (by kernel_rfl) ?zy21028 (by assumption) ?zr21028
              case zy21028 => (intro w hSw; (try dsimp only at hSw); go_simp; try with_reducible rfl)
              simp only [Act.put, aput]
              refine wtk 31 ?zv21029 41 rfl rfl (by kernel_rfl) (fun _ _ _ h => h) (by kernel_rfl) ?zy21029 (by assumption) ?zr21029
              case zy21029 => (intro w hSw; (try dsimp only at hSw); go_simp; try with_reducible rfl)
              simp only [Act.put, aput]
              refine wtk 32 ?zv21030 42 rfl rfl (by kernel_rfl) (fun _ _ _ h => h) (by kernel_rfl) ?zy21030 (by assumption) ?zr21030
              case zy21030 => (intro w hSw; (try dsimp only at hSw); go_simp; try with_reducible rfl)
              simp only [Act.put, aput]
              refine wpAnyH_ready (rs := [33]) (by kernel_rfl) (by simp) (AllReadyH.cons rfl (fun K hK => ?_) AllReadyH.nil)
              go_simp
              go_at_call 65
              refine (C4.out _ HB3.out).mono ?_
              rintro e w4 ⟨rfl, hb4⟩
              have HB4 : Hid (Below wr.heap.size wr w4) := HB3.out.trans (hb4.mono HB3.out.size)
              have H4 := Lib.hid (two_keep H3.out hb4)
              clear hb4
              refine hK.out _ _ (H4.out) (fun hHeld => ?_)
              clear hK K
              (try simp only [Act.put, aput])
              refine wtk 34 ?zv21031 44 rfl rfl (by kernel_rfl) (fun _ _ _ h => h) (by kernel_rfl) ?zy21031 (by assumption) ?zr21031
              case zy21031 => (intro w hSw; (try dsimp only at hSw); go_simp; try with_reducible rfl)
              simp only [Act.put, aput]
              refine wtk 35 ?zv21032 45 rfl rfl (by kernel_rfl) (fun _ _ _ h => h) (by kernel_rfl) ?zy21032 (by assumption) ?zr21032
              case zy21032 => (intro w hSw; (try dsimp only at hSw); go_simp; try with_reducible rfl)
              simp only [Act.put, aput]
              refine wpAnyH_done (by kernel_rfl) ?_ _
              have HBX : Hid (Below w.heap.size w w4) := HB.out.trans (HB4.out.mono HB.out.size)
              go_wp2
              go_roundw
              case rel => exact ⟨k + 1, by omega, by go_num, HBX, HG3⟩
              case measure => simp [intOf]; omega
            · have h3i : 2 < (nb : Int) := by omega
              have HNW : Hid (winB xs = false) := HNO.out (by rw [HFIT.out, decide_eq_false h3, Bool.and_false, Bool.and_false, Bool.and_false])
              have HF : Hid (winB xs = false) := HNW
              go_wp2_with fail
              refine wp_region_held_drew (S := (fun w' => w'.cell? ⟨b, o + k * 2, none⟩ = some (.int .i64 ap) ∧ w'.cell? ⟨b, o + k * 2 + 1, none⟩ = some (.int .i64 ab))) (by kernel_rfl) (H.out) (fun hHeld => ?_)
              refine wtk 0 ?zv21044 10 rfl rfl (by kernel_rfl) (fun _ _ _ h => h) (by kernel_rfl) ?zy21044 (by assumption) ?zr21044
              case zy21044 => (intro w hSw; (try dsimp only at hSw); go_simp; try with_reducible rfl)
              simp only [Act.put, aput]
              refine wtk 1 ?zv21045 11 rfl rfl (by kernel_rfl) (fun _ _ _ h => h) (by kernel_rfl) ?zy21045 (by assumption) ?zr21045
              case zy21045 => (intro w hSw; (try dsimp only at hSw); go_simp; try with_reducible rfl)
              simp only [Act.put, aput]
              refine wtk 2 ?zv21046 12 rfl rfl (by kernel_rfl) (fun _ _ _ h => h) (by kernel_rfl) ?zy21046 (by assumption) ?zr21046
              case zy21046 => (intro w hSw; (try dsimp only at hSw); go_simp; try with_reducible rfl)
              simp only [Act.put, aput]
              refine wtk 3 ?zv21047 13 rfl rfl (by kernel_rfl) (fun _ _ _ h => h) (by kernel_rfl) ?zy21047 (by assumption) ?zr21047
              case zy21047 => (intro w hSw; (try dsimp only at hSw); go_simp; try with_reducible rfl)
              simp only [Act.put, aput]
              refine wpAnyH_ready (rs := [4]) (by kernel_rfl) (by simp) (AllReadyH.cons rfl (fun K hK => ?_) AllReadyH.nil)
              go_simp
              go_at_call 62
              refine (C1.out _).mono ?_
              rintro e w1 ⟨rfl, hb1⟩
              have HB1 : Hid (Below wr.heap.size wr w1) := below_drew_l hb1
              have H1 := Lib.hid (two_keep H.out HB1.out)
              clear hb1
              refine hK.out _ _ (H1.out) (fun hHeld => ?_)
              clear hK K
              (try simp only [Act.put, aput])
              refine wtk 5 ?zv21048 15 rfl rfl (by kernel_rfl) (fun _ _ _ h => h) (by kernel_rfl) ?zy21048 (by assumption) ?zr21048
              case zy21048 => (intro w hSw; (try dsimp only at hSw); go_simp; try with_reducible rfl)
              simp only [Act.put, aput]
              refine wtk 6 ?zv21049 16 rfl rfl (by kernel_rfl) (fun _ _ _ h => h) (by kernel_rfl) ?zy21049 (by assumption) ?zr21049
              case zy21049 => (intro w hSw; (try dsimp only at hSw); go_simp; try with_reducible rfl)
              simp only [Act.put, aput]
              refine wtk 7 ?zv21050 17 rfl rfl (by kernel_rfl) (fun _ _ _ h => h) (by kernel_rfl) ?zy21050 (by assumption) ?zr21050
              case zy21050 => (intro w hSw; (try dsimp only at hSw); go_simp; try with_reducible rfl)
              simp only [Act.put, aput]
              refine wtk 8 ?zv21051 18 rfl rfl (by kernel_rfl) (fun _ _ _ h => h) (by kernel_rfl) ?zy21051 (by assumption) ?zr21051
              case zy21051 => (intro w hSw; (try dsimp only at hSw); go_simp; try with_reducible rfl)
              simp only [Act.put, aput]
              refine wtk 9 ?zv21052 19 rfl rfl (by kernel_rfl) (fun _ _ _ h => h) (by kernel_rfl) ?zy21052 (by assumption) ?zr21052
              case zy21052 => (intro w hSw; (try dsimp only at hSw); go_simp; try with_reducible rfl)
              simp only [Act.put, aput]
              refine wtk 10 ?zv21053 20 rfl rfl (by kernel_rfl) (fun _ _ _ h => h) (by kernel_rfl) ?zy21053 (by assumption) ?zr21053
              case zy21053 => (intro w hSw; (try dsimp only at hSw); go_simp; try with_reducible rfl)
              simp only [Act.put, aput]
              refine wtk 11 ?zv21054 21 rfl rfl (by kernel_rfl) (fun _ _ _ h => h) (by kernel_rfl) ?zy21054 (by assumption) ?zr21054
              case zy21054 => (intro w hSw; (try dsimp only at hSw); go_simp; try with_reducible rfl)
              simp only [Act.put, aput]
              refine wtk 12 ?zv21055 22 rfl rfl (by kernel_rfl) (fun _ _ _ h => h) (by kernel_rfl) ?zy21055 (by assumption) ?zr21055
              case zy21055 => (intro w hSw; (try dsimp only at hSw); go_simp; try with_reducible rfl)
              simp only [Act.put, aput]
              refine wtk 13 ?zv21056 23 rfl rfl (by kernel_rfl) (fun _ _ _ h => h) (by kernel_rfl) ?zy21056 (by assumption) ?zr21056
              case zy21056 => (intro w hSw; (try dsimp only at hSw); go_simp; try with_reducible rfl)
              simp only [Act.put, aput]
              refine wpAnyH_ready (rs := [14]) (by kernel_rfl) (by simp) (AllReadyH.cons rfl (fun K hK => ?_) AllReadyH.nil)
              go_simp
              go_at_call 63
              refine (C2.out _ HB1.out).mono ?_
              rintro e w2 ⟨rfl, hb2⟩
              have HB2 : Hid (Below wr.heap.size wr w2) := HB1.out.trans (hb2.mono HB1.out.size)
              have H2 := Lib.hid (two_keep H1.out hb2)
              clear hb2
              refine hK.out _ _ (H2.out) (fun hHeld => ?_)
              clear hK K
              (try simp only [Act.put, aput])
              refine wtk 15 ?zv21057 25 rfl rfl (by kernel_rfl) (fun _ _ _ h => h) (by kernel_rfl) ?zy21057 (by assumption) ?zr21057
              case zy21057 => (intro w hSw; (try dsimp only at hSw); go_simp; try with_reducible rfl)
              simp only [Act.put, aput]
              refine wtk 16 ?zv21058 26 rfl rfl (by kernel_rfl) (fun _ _ _ h => h) (by kernel_rfl) ?zy21058 (by assumption) ?zr21058
              case zy21058 => (intro w hSw; (try dsimp only at hSw); go_simp; try with_reducible rfl)
              simp only [Act.put, aput]
              refine wtk 17 ?zv21059 27 rfl rfl (by kernel_rfl) (fun _ _ _ h => h) (by kernel_rfl) ?zy21059 (by assumption) ?zr21059
              case zy21059 => (intro w hSw; (try dsimp only at hSw); go_simp; try with_reducible rfl)
              simp only [Act.put, aput]
              refine wtk 18 ?zv21060 28 rfl rfl (by kernel_rfl) (fun _ _ _ h => h) (by kernel_rfl) ?zy21060 (by assumption) ?zr21060
              case zy21060 => (intro w hSw; (try dsimp only at hSw); go_simp; try with_reducible rfl)
              simp only [Act.put, aput]
              refine wtk 19 ?zv21061 29 rfl rfl (by kernel_rfl) (fun _ _ _ h => h) (by kernel_rfl) ?zy21061 (by assumption) ?zr21061
              case zy21061 => (intro w hSw; (try dsimp only at hSw); go_simp; try with_reducible rfl)
              simp only [Act.put, aput]
              refine wtk 20 ?zv21062 30 rfl rfl (by kernel_rfl) (fun _ _ _ h => h) (by kernel_rfl) ?zy21062 (by assumption) ?zr21062
              case zy21062 => (intro w hSw; (try dsimp only at hSw); go_simp; try with_reducible rfl)
              simp only [Act.put, aput]
              refine wtk 21 ?zv21063 31 rfl rfl (by kernel_rfl) (fun _ _ _ h => h) (by kernel_rfl) ?zy21063 (by assumption) ?zr21063
              case zy21063 => (intro w hSw; (try dsimp only at hSw); go_simp; try with_reducible rfl)
              simp only [Act.put, aput]
              refine wtk 22 ?zv21064 32 rfl rfl (by kernel_rfl) (fun _ _ _ h => h) (by kernel_rfl) ?zy21064 (by assumption) ?zr21064
              case zy21064 => (intro w hSw; (try dsimp only at hSw); go_simp; try with_reducible rfl)
              simp only [Act.put, aput]
              refine wpAnyH_ready (rs := [23]) (by kernel_rfl) (by simp) (AllReadyH.cons rfl (fun K hK => ?_) AllReadyH.nil)
              go_simp
              go_at_call 64
              refine (C3.out _ HB2.out).mono ?_
              rintro e w3 ⟨rfl, hb3⟩
              have HB3 : Hid (Below wr.heap.size wr w3) := HB2.out.trans (hb3.mono HB2.out.size)
              have H3 := Lib.hid (two_keep H2.out hb3)
              clear hb3
              refine hK.out _ _ (H3.out) (fun hHeld => ?_)
              clear hK K
              (try simp only [Act.put, aput])
              refine wtk 24 ?zv21065 34 rfl rfl (by kernel_rfl) (fun _ _ _ h => h) (by kernel_rfl) ?zy21065 (by assumption) ?zr21065
              case zy21065 => (intro w hSw; (try dsimp only at hSw); go_simp; try with_reducible rfl)
              simp only [Act.put, aput]
              refine wtk 25 ?zv21066 35 rfl rfl (by kernel_rfl) (fun _ _ _ h => h) (by kernel_rfl) ?zy21066 (by assumption) ?zr21066
              case zy21066 => (intro w hSw; (try dsimp only at hSw); go_simp; try with_reducible rfl)
              simp only [Act.put, aput]
              refine wtk 26 ?zv21067 36 rfl rfl (by kernel_rfl) (fun _ _ _ h => h) (by kernel_rfl) ?zy21067 (by assumption) ?zr21067
              case zy21067 => (intro w hSw; (try dsimp only at hSw); go_simp; try with_reducible rfl)
              simp only [Act.put, aput]
              refine wtk 27 ?zv21068 37 rfl rfl (by kernel_rfl) (fun _ _ _ h => h) (by kernel_rfl) ?zy21068 (by assumption) ?zr21068
              case zy21068 => (intro w hSw; (try dsimp only at hSw); go_simp; try with_reducible rfl)
              simp only [Act.put, aput]
              refine wtk 28 ?zv21069 38 rfl rfl (by kernel_rfl) (fun _ _ _ h => h) (by kernel_rfl) ?zy21069 (by assumption) ?zr21069
              case zy21069 => (intro w hSw; (try dsimp only at hSw); go_simp; try with_reducible rfl)
              simp only [Act.put, aput]
              refine wtk 29 ?zv21070 39 rfl rfl (by kernel_rfl) (fun _ _ _ h => h) (by kernel_rfl) ?zy21070 (by assumption) ?zr21070
              case zy21070 => (intro w hSw; (try dsimp only at hSw); go_simp; try with_reducible rfl)
              simp only [Act.put, aput]
              refine wtk 30 ?zv21071 40 rfl rfl (by kernel_rfl) (fun _ _ _ h => h) (by kernel_rfl) ?zy21071 (by assumption) ?zr21071
              case zy21071 => (intro w hSw; (try dsimp only at hSw); go_simp; try with_reducible rfl)
              simp only [Act.put, aput]
              refine wtk 31 ?zv21072 41 rfl rfl (by kernel_rfl) (fun _ _ _ h => h) (by kernel_rfl) ?zy21072 (by assumption) ?zr21072
              case zy21072 => (intro w hSw; (try dsimp only at hSw); go_simp; try with_reducible rfl)
              simp only [Act.put, aput]
              refine wtk 32 ?zv21073 42 rfl rfl (by kernel_rfl) (fun _ _ _ h => h) (by kernel_rfl) ?zy21073 (by assumption) ?zr21073
              case zy21073 => (intro w hSw; (try dsimp only at hSw); go_simp; try with_reducible rfl)
              simp only [Act.put, aput]
              refine wpAnyH_ready (rs := [33]) (by kernel_rfl) (by simp) (AllReadyH.cons rfl (fun K hK => ?_) AllReadyH.nil)
              go_simp
              go_at_call 65
              refine (C4.out _ HB3.out).mono ?_
              rintro e w4 ⟨rfl, hb4⟩
              have HB4 : Hid (Below wr.heap.size wr w4) := HB3.out.trans (hb4.mono HB3.out.size)
              have H4 := Lib.hid (two_keep H3.out hb4)
              clear hb4
              refine hK.out _ _ (H4.out) (fun hHeld => ?_)
              clear hK K
              (try simp only [Act.put, aput])
              refine wtk 34 ?zv21074 44 rfl rfl (by kernel_rfl) (fun _ _ _ h => h) (by kernel_rfl) ?zy21074 (by assumption) ?zr21074
              case zy21074 => (intro w hSw; (try dsimp only at hSw); go_simp; try with_reducible rfl)
              simp only [Act.put, aput]
              refine wtk 35 ?zv21075 45 rfl rfl (by kernel_rfl) (fun _ _ _ h => h) (by kernel_rfl) ?zy21075 (by assumption) ?zr21075
              case zy21075 => (intro w hSw; (try dsimp only at hSw); go_simp; try with_reducible rfl)
              simp only [Act.put, aput]
              refine wpAnyH_done (by kernel_rfl) ?_ _
              have HBX : Hid (Below w.heap.size w w4) := HB.out.trans (HB4.out.mono HB.out.size)
              go_wp2
              go_ret
              exact ⟨ret_bool (by have h := HF.out; first | exact h.symm | (rw [h]; simp; omega) | (rw [h]; simp)), HBX.out⟩
          · have h2i : 3 < (np : Int) := by omega
            have HNW : Hid (winB xs = false) := HNO.out (by rw [HFIT.out, decide_eq_false h2, Bool.false_and, Bool.and_false, Bool.and_false])
            have HF : Hid (winB xs = false) := HNW
            go_wp2_with fail
            refine wp_region_held_drew (S := (fun w' => w'.cell? ⟨b, o + k * 2, none⟩ = some (.int .i64 ap) ∧ w'.cell? ⟨b, o + k * 2 + 1, none⟩ = some (.int .i64 ab))) (by kernel_rfl) (H.out) (fun hHeld => ?_)
            refine wtk 0 ?zv21076 10 rfl rfl (by kernel_rfl) (fun _ _ _ h => h) (by kernel_rfl) ?zy21076 (by assumption) ?zr21076
            case zy21076 => (intro w hSw; (try dsimp only at hSw); go_simp; try with_reducible rfl)
            simp only [Act.put, aput]
            refine wtk 1 ?zv21077 11 rfl rfl (by kernel_rfl) (fun _ _ _ h => h) (by kernel_rfl) ?zy21077 (by assumption) ?zr21077
            case zy21077 => (intro w hSw; (try dsimp only at hSw); go_simp; try with_reducible rfl)
            simp only [Act.put, aput]
            refine wtk 2 ?zv21078 12 rfl rfl (by kernel_rfl) (fun _ _ _ h => h) (by kernel_rfl) ?zy21078 (by assumption) ?zr21078
            case zy21078 => (intro w hSw; (try dsimp only at hSw); go_simp; try with_reducible rfl)
            simp only [Act.put, aput]
            refine wtk 3 ?zv21079 13 rfl rfl (by kernel_rfl) (fun _ _ _ h => h) (by kernel_rfl) ?zy21079 (by assumption) ?zr21079
            case zy21079 => (intro w hSw; (try dsimp only at hSw); go_simp; try with_reducible rfl)
            simp only [Act.put, aput]
            refine wpAnyH_ready (rs := [4]) (by kernel_rfl) (by simp) (AllReadyH.cons rfl (fun K hK => ?_) AllReadyH.nil)
            go_simp
            go_at_call 62
            refine (C1.out _).mono ?_
            rintro e w1 ⟨rfl, hb1⟩
            have HB1 : Hid (Below wr.heap.size wr w1) := below_drew_l hb1
            have H1 := Lib.hid (two_keep H.out HB1.out)
            clear hb1
            refine hK.out _ _ (H1.out) (fun hHeld => ?_)
            clear hK K
            (try simp only [Act.put, aput])
            refine wtk 5 ?zv21080 15 rfl rfl (by kernel_rfl) (fun _ _ _ h => h) (by kernel_rfl) ?zy21080 (by assumption) ?zr21080
            case zy21080 => (intro w hSw; (try dsimp only at hSw); go_simp; try with_reducible rfl)
            simp only [Act.put, aput]
            refine wtk 6 ?zv21081 16 rfl rfl (by kernel_rfl) (fun _ _ _ h => h) (by kernel_rfl) ?zy21081 (by assumption) ?zr21081
            case zy21081 => (intro w hSw; (try dsimp only at hSw); go_simp; try with_reducible rfl)
            simp only [Act.put, aput]
            refine wtk 7 ?zv21082 17 rfl rfl (by kernel_rfl) (fun _ _ _ h => h) (by kernel_rfl) ?zy21082 (by assumption) ?zr21082
            case zy21082 => (intro w hSw; (try dsimp only at hSw); go_simp; try with_reducible rfl)
            simp only [Act.put, aput]
            refine wtk 8 ?zv21083 18 rfl rfl (by kernel_rfl) (fun _ _ _ h => h) (by kernel_rfl) ?zy21083 (by assumption) ?zr21083
            case zy21083 => (intro w hSw; (try dsimp only at hSw); go_simp; try with_reducible rfl)
            simp only [Act.put, aput]
            refine wtk 9 ?zv21084 19 rfl rfl (by kernel_rfl) (fun _ _ _ h => h) (by kernel_rfl) ?zy21084 (by assumption) ?zr21084
            case zy21084 => (intro w hSw; (try dsimp only at hSw); go_simp; try with_reducible rfl)
            simp only [Act.put, aput]
            refine wtk 10 ?zv21085 20 rfl rfl (by kernel_rfl) (fun _ _ _ h => h) (by kernel_rfl) ?zy21085 (by assumption) ?zr21085
            case zy21085 => (intro w hSw; (try dsimp only at hSw); go_simp; try with_reducible rfl)
            simp only [Act.put, aput]
            refine wtk 11 ?zv21086 21 rfl rfl (by kernel_rfl) (fun _ _ _ h => h) (by kernel_rfl) ?zy21086 (by assumption) ?zr21086
            case zy21086 => (intro w hSw; (try dsimp only at hSw); go_simp; try with_reducible rfl)
            simp only [Act.put, aput]
            refine wtk 12 ?zv21087 22 rfl rfl (by kernel_rfl) (fun _ _ _ h => h) (by kernel_rfl) ?zy21087 (by assumption) ?zr21087
            case zy21087 => (intro w hSw; (try dsimp only at hSw); go_simp; try with_reducible rfl)
            simp only [Act.put, aput]
            refine wtk 13 ?zv21088 23 rfl rfl (by kernel_rfl) (fun _ _ _ h => h) (by kernel_rfl) ?zy21088 (by assumption) ?zr21088
            case zy21088 => (intro w hSw; (try dsimp only at hSw); go_simp; try with_reducible rfl)
            simp only [Act.put, aput]
            refine wpAnyH_ready (rs := [14]) (by kernel_rfl) (by simp) (AllReadyH.cons rfl (fun K hK => ?_) AllReadyH.nil)
            go_simp
            go_at_call 63
            refine (C2.out _ HB1.out).mono ?_
            rintro e w2 ⟨rfl, hb2⟩
            have HB2 : Hid (Below wr.heap.size wr w2) := HB1.out.trans (hb2.mono HB1.out.size)
            have H2 := Lib.hid (two_keep H1.out hb2)
            clear hb2
            refine hK.out _ _ (H2.out) (fun hHeld => ?_)
            clear hK K
            (try simp only [Act.put, aput])
            refine wtk 15 ?zv21089 25 rfl rfl (by kernel_rfl) (fun _ _ _ h => h) (by kernel_rfl) ?zy21089 (by assumption) ?zr21089
            case zy21089 => (intro w hSw; (try dsimp only at hSw); go_simp; try with_reducible rfl)
            simp only [Act.put, aput]
            refine wtk 16 ?zv21090 26 rfl rfl (by kernel_rfl) (fun _ _ _ h => h) (by kernel_rfl) ?zy21090 (by assumption) ?zr21090
            case zy21090 => (intro w hSw; (try dsimp only at hSw); go_simp; try with_reducible rfl)
            simp only [Act.put, aput]
            refine wtk 17 ?zv21091 27 rfl rfl (by kernel_rfl) (fun _ _ _ h => h) (by kernel_rfl) ?zy21091 (by assumption) ?zr21091
            case zy21091 => (intro w hSw; (try dsimp only at hSw); go_simp; try with_reducible rfl)
            simp only [Act.put, aput]
            refine wtk 18 ?zv21092 28 rfl rfl (by kernel_rfl) (fun _ _ _ h => h) (by kernel_rfl) ?zy21092 (by assumption) ?zr21092
            case zy21092 => (intro w hSw; (try dsimp only at hSw); go_simp; try with_reducible rfl)
            simp only [Act.put, aput]
            refine wtk 19 ?zv21093 29 rfl rfl (by kernel_rfl) (fun _ _ _ h => h) (by kernel_rfl) ?zy21093 (by assumption) ?zr21093
            case zy21093 => (intro w hSw; (try dsimp only at hSw); go_simp; try with_reducible rfl)
            simp only [Act.put, aput]
            refine wtk 20 ?zv21094 30 rfl rfl (by kernel_rfl) (fun _ _ _ h => h) (by kernel_rfl) ?zy21094 (by assumption) ?zr21094
            case zy21094 => (intro w hSw; (try dsimp only at hSw); go_simp; try with_reducible rfl)
            simp only [Act.put, aput]
            refine wtk 21 ?zv21095 31 rfl rfl (by kernel_rfl) (fun _ _ _ h => h) (by kernel_rfl) ?zy21095 (by assumption) ?zr21095
            case zy21095 => (intro w hSw; (try dsimp only at hSw); go_simp; try with_reducible rfl)
            simp only [Act.put, aput]
            refine wtk 22 ?zv21096 32 rfl rfl (by kernel_rfl) (fun _ _ _ h => h) (by kernel_rfl) ?zy21096 (by assumption) ?zr21096
            case zy21096 => (intro w hSw; (try dsimp only at hSw); go_simp; try with_reducible rfl)
            simp only [Act.put, aput]
            refine wpAnyH_ready (rs := [23]) (by kernel_rfl) (by simp) (AllReadyH.cons rfl (fun K hK => ?_) AllReadyH.nil)
            go_simp
            go_at_call 64
            refine (C3.out _ HB2.out).mono ?_
            rintro e w3 ⟨rfl, hb3⟩
            have HB3 : Hid (Below wr.heap.size wr w3) := HB2.out.trans (hb3.mono HB2.out.size)
            have H3 := Lib.hid (two_keep H2.out hb3)
            clear hb3
            refine hK.out _ _ (H3.out) (fun hHeld => ?_)
            clear hK K
            (try simp only [Act.put, aput])
            refine wtk 24 ?zv21097 34 rfl rfl (by kernel_rfl) (fun _ _ _ h => h) (by kernel_rfl) ?zy21097 (by assumption) ?zr21097
            case zy21097 => (intro w hSw; (try dsimp only at hSw); go_simp; try with_reducible rfl)
            simp only [Act.put, aput]
            refine wtk 25 ?zv21098 35 rfl rfl (by kernel_rfl) (fun _ _ _ h => h) (by kernel_rfl) ?zy21098 (by assumption) ?zr21098
            case zy21098 => (intro w hSw; (try dsimp only at hSw); go_simp; try with_reducible rfl)
            simp only [Act.put, aput]
            refine wtk 26 ?zv21099 36 rfl rfl (by kernel_rfl) (fun _ _ _ h => h) (by kernel_rfl) ?zy21099 (by assumption) ?zr21099
            case zy21099 => (intro w hSw; (try dsimp only at hSw); go_simp; try with_reducible rfl)
            simp only [Act.put, aput]
            refine wtu 27 37 rfl rfl (by kernel_rfl) (fun _ _ _ h => h) (by kernel_rfl) (by assumption) ?_
            simp only [Act.put, aput]
            refine wtu 28 38 rfl rfl (by kernel_rfl) (fun _ _ _ h => h) (by kernel_rfl) (by assumption) ?_
            simp only [Act.put, aput]
            refine wtu 29 39 rfl rfl (by kernel_rfl) (fun _ _ _ h => h) (by kernel_rfl) (by assumption) ?_
            simp only [Act.put, aput]
            refine wtu 30 40 rfl rfl (by kernel_rfl) (fun _ _ _ h => h) (by kernel_rfl) (by assumption) ?_
            simp only [Act.put, aput]
            refine wtu 31 41 rfl rfl (by kernel_rfl) (fun _ _ _ h => h) (by kernel_rfl) (by assumption) ?_
            simp only [Act.put, aput]
            refine wtu 32 42 rfl rfl (by kernel_rfl) (fun _ _ _ h => h) (by kernel_rfl) (by assumption) ?_
            simp only [Act.put, aput]
            refine wtu 33 43 rfl rfl (by kernel_rfl) (fun _ _ _ h => h) (by kernel_rfl) (by assumption) ?_
            simp only [Act.put, aput]
            refine wtu 34 44 rfl rfl (by kernel_rfl) (fun _ _ _ h => h) (by kernel_rfl) (by assumption) ?_
            simp only [Act.put, aput]
            refine wtk 35 ?zv21100 45 rfl rfl (by kernel_rfl) (fun _ _ _ h => h) (by kernel_rfl) ?zy21100 (by assumption) ?zr21100
            case zy21100 => (intro w hSw; (try dsimp only at hSw); go_simp; try with_reducible rfl)
            simp only [Act.put, aput]
            refine wpAnyH_done (by kernel_rfl) ?_ _
            have HBX : Hid (Below w.heap.size w w3) := HB.out.trans (HB3.out.mono HB.out.size)
            go_wp2
            go_ret
            exact ⟨ret_bool (by have h := HF.out; first | exact h.symm | (rw [h]; simp; omega) | (rw [h]; simp)), HBX.out⟩
        · rw [decide_eq_true (show 0 < nh by omega)] at C2
          have HNW : Hid (winB xs = false) := HNO.out (by rw [HFIT.out, decide_eq_false h1, Bool.false_and, Bool.and_false])
          have HF : Hid (winB xs = false) := HNW
          go_wp2_with fail
          refine wp_region_held_drew (S := (fun w' => w'.cell? ⟨b, o + k * 2, none⟩ = some (.int .i64 ap) ∧ w'.cell? ⟨b, o + k * 2 + 1, none⟩ = some (.int .i64 ab))) (by kernel_rfl) (H.out) (fun hHeld => ?_)
          refine wtk 0 ?zv21101 10 rfl rfl (by kernel_rfl) (fun _ _ _ h => h) (by kernel_rfl) ?zy21101 (by assumption) ?zr21101
          case zy21101 => (intro w hSw; (try dsimp only at hSw); go_simp; try with_reducible rfl)
          simp only [Act.put, aput]
          refine wtk 1 ?zv21102 11 rfl rfl (by kernel_rfl) (fun _ _ _ h => h) (by kernel_rfl) ?zy21102 (by assumption) ?zr21102
          case zy21102 => (intro w hSw; (try dsimp only at hSw); go_simp; try with_reducible rfl)
          simp only [Act.put, aput]
          refine wtk 2 ?zv21103 12 rfl rfl (by kernel_rfl) (fun _ _ _ h => h) (by kernel_rfl) ?zy21103 (by assumption) ?zr21103
          case zy21103 => (intro w hSw; (try dsimp only at hSw); go_simp; try with_reducible rfl)
          simp only [Act.put, aput]
          refine wtk 3 ?zv21104 13 rfl rfl (by kernel_rfl) (fun _ _ _ h => h) (by kernel_rfl) ?zy21104 (by assumption) ?zr21104
          case zy21104 => (intro w hSw; (try dsimp only at hSw); go_simp; try with_reducible rfl)
          simp only [Act.put, aput]
          refine wpAnyH_ready (rs := [4]) (by kernel_rfl) (by simp) (AllReadyH.cons rfl (fun K hK => ?_) AllReadyH.nil)
          go_simp
          go_at_call 62
          refine (C1.out _).mono ?_
          rintro e w1 ⟨rfl, hb1⟩
          have HB1 : Hid (Below wr.heap.size wr w1) := below_drew_l hb1
          have H1 := Lib.hid (two_keep H.out HB1.out)
          clear hb1
          refine hK.out _ _ (H1.out) (fun hHeld => ?_)
          clear hK K
          (try simp only [Act.put, aput])
          refine wtk 5 ?zv21105 15 rfl rfl (by kernel_rfl) (fun _ _ _ h => h) (by kernel_rfl) ?zy21105 (by assumption) ?zr21105
          case zy21105 => (intro w hSw; (try dsimp only at hSw); go_simp; try with_reducible rfl)
          simp only [Act.put, aput]
          refine wtk 6 ?zv21106 16 rfl rfl (by kernel_rfl) (fun _ _ _ h => h) (by kernel_rfl) ?zy21106 (by assumption) ?zr21106
          case zy21106 => (intro w hSw; (try dsimp only at hSw); go_simp; try with_reducible rfl)
          simp only [Act.put, aput]
          refine wtk 7 ?zv21107 17 rfl rfl (by kernel_rfl) (fun _ _ _ h => h) (by kernel_rfl) ?zy21107 (by assumption) ?zr21107
          case zy21107 => (intro w hSw; (try dsimp only at hSw); go_simp; try with_reducible rfl)
          simp only [Act.put, aput]
          refine wtk 8 ?zv21108 18 rfl rfl (by kernel_rfl) (fun _ _ _ h => h) (by kernel_rfl) ?zy21108 (by assumption) ?zr21108
          case zy21108 => (intro w hSw; (try dsimp only at hSw); go_simp; try with_reducible rfl)
          simp only [Act.put, aput]
          refine wtk 9 ?zv21109 19 rfl rfl (by kernel_rfl) (fun _ _ _ h => h) (by kernel_rfl) ?zy21109 (by assumption) ?zr21109
          case zy21109 => (intro w hSw; (try dsimp only at hSw); go_simp; try with_reducible rfl)
          simp only [Act.put, aput]
          refine wtk 10 ?zv21110 20 rfl rfl (by kernel_rfl) (fun _ _ _ h => h) (by kernel_rfl) ?zy21110 (by assumption) ?zr21110
          case zy21110 => (intro w hSw; (try dsimp only at hSw); go_simp; try with_reducible rfl)
          simp only [Act.put, aput]
          refine wtk 11 ?zv21111 21 rfl rfl (by kernel_rfl) (fun _ _ _ h => h) (by kernel_rfl) ?zy21111 (by assumption) ?zr21111
          case zy21111 => (intro w hSw; (try dsimp only at hSw); go_simp; try with_reducible rfl)
          simp only [Act.put, aput]
          refine wtk 12 ?zv21112 22 rfl rfl (by kernel_rfl) (fun _ _ _ h => h) (by kernel_rfl) ?zy21112 (by assumption) ?zr21112
          case zy21112 => (intro w hSw; (try dsimp only at hSw); go_simp; try with_reducible rfl)
          simp only [Act.put, aput]
          refine wtk 13 ?zv21113 23 rfl rfl (by kernel_rfl) (fun _ _ _ h => h) (by kernel_rfl) ?zy21113 (by assumption) ?zr21113
          case zy21113 => (intro w hSw; (try dsimp only at hSw); go_simp; try with_reducible rfl)
          simp only [Act.put, aput]
          refine wpAnyH_ready (rs := [14]) (by kernel_rfl) (by simp) (AllReadyH.cons rfl (fun K hK => ?_) AllReadyH.nil)
          go_simp
          go_at_call 63
          refine (C2.out _ HB1.out).mono ?_
          rintro e w2 ⟨rfl, hb2⟩
          have HB2 : Hid (Below wr.heap.size wr w2) := HB1.out.trans (hb2.mono HB1.out.size)
          have H2 := Lib.hid (two_keep H1.out hb2)
          clear hb2
          refine hK.out _ _ (H2.out) (fun hHeld => ?_)
          clear hK K
          (try simp only [Act.put, aput])
          refine wtk 15 ?zv21114 25 rfl rfl (by kernel_rfl) (fun _ _ _ h => h) (by kernel_rfl) ?zy21114 (by assumption) ?zr21114
          case zy21114 => (intro w hSw; (try dsimp only at hSw); go_simp; try with_reducible rfl)
          simp only [Act.put, aput]
          refine wtk 16 ?zv21115 26 rfl rfl (by kernel_rfl) (fun _ _ _ h => h) (by kernel_rfl) ?zy21115 (by assumption) ?zr21115
          case zy21115 => (intro w hSw; (try dsimp only at hSw); go_simp; try with_reducible rfl)
          simp only [Act.put, aput]
          refine wtu 17 27 rfl rfl (by kernel_rfl) (fun _ _ _ h => h) (by kernel_rfl) (by assumption) ?_
          simp only [Act.put, aput]
          refine wtu 18 28 rfl rfl (by kernel_rfl) (fun _ _ _ h => h) (by kernel_rfl) (by assumption) ?_
          simp only [Act.put, aput]
          refine wtu 19 29 rfl rfl (by kernel_rfl) (fun _ _ _ h => h) (by kernel_rfl) (by assumption) ?_
          simp only [Act.put, aput]
          refine wtu 20 30 rfl rfl (by kernel_rfl) (fun _ _ _ h => h) (by kernel_rfl) (by assumption) ?_
          simp only [Act.put, aput]
          refine wtu 21 31 rfl rfl (by kernel_rfl) (fun _ _ _ h => h) (by kernel_rfl) (by assumption) ?_
          simp only [Act.put, aput]
          refine wtu 22 32 rfl rfl (by kernel_rfl) (fun _ _ _ h => h) (by kernel_rfl) (by assumption) ?_
          simp only [Act.put, aput]
          refine wtu 23 33 rfl rfl (by kernel_rfl) (fun _ _ _ h => h) (by kernel_rfl) (by assumption) ?_
          simp only [Act.put, aput]
          refine wtu 24 34 rfl rfl (by kernel_rfl) (fun _ _ _ h => h) (by kernel_rfl) (by assumption) ?_
          simp only [Act.put, aput]
          refine wtk 25 ?zv21116 35 rfl rfl (by kernel_rfl) (fun _ _ _ h => h) (by kernel_rfl) ?zy21116 (by assumption) ?zr21116
          case zy21116 => (intro w hSw; (try dsimp only at hSw); go_simp; try with_reducible rfl)
          simp only [Act.put, aput]
          refine wtk 26 ?zv21117 36 rfl rfl (by kernel_rfl) (fun _ _ _ h => h) (by kernel_rfl) ?zy21117 (by assumption) ?zr21117
          case zy21117 => (intro w hSw; (try dsimp only at hSw); go_simp; try with_reducible rfl)
          simp only [Act.put, aput]
          refine wtu 27 37 rfl rfl (by kernel_rfl) (fun _ _ _ h => h) (by kernel_rfl) (by assumption) ?_
          simp only [Act.put, aput]
          refine wtu 28 38 rfl rfl (by kernel_rfl) (fun _ _ _ h => h) (by kernel_rfl) (by assumption) ?_
          simp only [Act.put, aput]
          refine wtu 29 39 rfl rfl (by kernel_rfl) (fun _ _ _ h => h) (by kernel_rfl) (by assumption) ?_
          simp only [Act.put, aput]
          refine wtu 30 40 rfl rfl (by kernel_rfl) (fun _ _ _ h => h) (by kernel_rfl) (by assumption) ?_
          simp only [Act.put, aput]
          refine wtu 31 41 rfl rfl (by kernel_rfl) (fun _ _ _ h => h) (by kernel_rfl) (by assumption) ?_
          simp only [Act.put, aput]
          refine wtu 32 42 rfl rfl (by kernel_rfl) (fun _ _ _ h => h) (by kernel_rfl) (by assumption) ?_
          simp only [Act.put, aput]
          refine wtu 33 43 rfl rfl (by kernel_rfl) (fun _ _ _ h => h) (by kernel_rfl) (by assumption) ?_
          simp only [Act.put, aput]
          refine wtu 34 44 rfl rfl (by kernel_rfl) (fun _ _ _ h => h) (by kernel_rfl) (by assumption) ?_
          simp only [Act.put, aput]
          refine wtk 35 ?zv21118 45 rfl rfl (by kernel_rfl) (fun _ _ _ h => h) (by kernel_rfl) ?zy21118 (by assumption) ?zr21118
          case zy21118 => (intro w hSw; (try dsimp only at hSw); go_simp; try with_reducible rfl)
          simp only [Act.put, aput]
          refine wpAnyH_done (by kernel_rfl) ?_ _
          have HBX : Hid (Below w.heap.size w w2) := HB.out.trans (HB2.out.mono HB.out.size)
          go_wp2
          go_ret
          exact ⟨ret_bool (by have h := HF.out; first | exact h.symm | (rw [h]; simp; omega) | (rw [h]; simp)), HBX.out⟩
    · have hkn : k = n := by omega
      subst hkn
      have HF : Hid (winB xs = true) := win_of_fitS fun j hj => HG.out j (by rw [HN.out] at hj; exact hj)
      go_wp2
      go_ret
      exact ⟨ret_bool (by have h := HF.out; first | exact h.symm | (rw [h]; simp; omega) | (rw [h]; simp)), HB.out⟩

end Go.Proofs.YtkmebilhbjcfpaaGreat
