/- The contract of ForkNamed: the public keys of the right proofs, sorted, in memory of the call's own. Conditions: the list lies in memory and is short. -/
import Derived.Test.YtkicfneikbiklaaNamedRows
namespace Go.Proofs.Ytkicfneikbiklaa
open Go.RowKit Go.Maps Go.Sort Go.Shelf
set_option linter.unusedVariables false

set_option maxHeartbeats 4000000 in
set_option maxRecDepth 100000 in
theorem named_any (A : Option Addr) (cap : Nat) (xs : List KD) (w : World) (hI : RowAt KK w w.heap.size A xs) (hl : xs.length ≤ 2000000) :
    Calls Try.prog 8 #[.slice A xs.length cap] w fun e w' => ∃ (v : Value) (ss : List Int), e = .returned v ∧ ss.Perm (intKeys (namedD xs)) ∧
      w'.ownsRow w.heap.size 3 1 v ss.length ((ss.mergeSort (fun x y => decide (x ≤ y))).map encZ) ∧ (v = .slice none 0 0 ↔ ss = []) ∧ Below w.heap.size w w' := by
  have hmm := @run_makeMap Try.prog
  have HI := Lib.hid hI
  obtain ⟨V, HV⟩ : ∃ V, Hid (w.alloc (.map #[] 0) = V) := ⟨_, rfl⟩
  have HBV : Hid (Below w.heap.size w V) := by rw [← HV.out]; exact (Below.refl _ w).alloc (Nat.le_refl _) _
  have HOV : Hid (V.ownsMap Try.prog 3 (plainElem Try.prog 4) w.heap.size 0 (namedD (xs.take 0))) := by
    rw [← HV.out, List.take_zero, named_nil]; exact World.ownsMap_made w Try.prog _ _
  obtain ⟨n, HN⟩ : ∃ n, Hid (xs.length = n) := ⟨_, rfl⟩
  rw [HN.out] at hl ⊢
  clear hI
  go_enter Try.func8, Try.ntmps8
  go_upto_region 2 with fail
  rw [HV.out]
  go_wp2_with fail
  go_loopw [9] (fun i w' => ∃ j : Nat, j ≤ n ∧ i = .int .i64 (j : Int) ∧ Hid (w'.ownsMap Try.prog 3 (plainElem Try.prog 4) w.heap.size j (namedD (xs.take j))) ∧ Hid (Below w.heap.size w w')) (fun i _ => n - (intOf i).toNat)
  case atStart => exact ⟨0, Nat.zero_le _, rfl, HOV, HBV⟩
  case round =>
    obtain ⟨j, hj, rfl, HOr, HBr⟩ := hrel
    have hlr := HOr.out.lt
    by_cases hjn : j < n
    · have hjx : j < xs.length := by rw [HN.out]; exact hjn
      obtain ⟨b, o, rfl⟩ := HI.out.some_ (by omega)
      obtain ⟨q0, q1, q2, q3, q4, q5, q6⟩ := fork_seven (HI.out.belowS HBr.out) j hjx
      obtain ⟨r, HR⟩ : ∃ r, Hid (kth xs j = r) := ⟨_, rfl⟩
      rw [HR.out] at q0 q1 q2 q3 q4 q5 q6
      have hjn2 : (j : Int) < (n : Int) := by omega
      have hj0 : (0 : Int) ≤ (j : Int) := by omega
      obtain ⟨W, HW⟩ : ∃ W, Hid (wr.alloc (.cells (forkC r.p r.a r.b r.c r.x r.y r.z) 32) = W) := ⟨_, rfl⟩
      have HbW : Hid (Below wr.heap.size wr W) := by rw [← HW.out]; exact (Below.refl _ wr).alloc (Nat.le_refl _) _
      have KW : Hid (Blk W wr.heap.size 32 (forkC r.p r.a r.b r.c r.x r.y r.z)) := by rw [← HW.out]; exact Blk.new wr _ _
      go_wp2_with fail
      rw [HW.out]
      refine (forkCheck_any r.p r.a r.b r.c r.x r.y r.z W).mono ?_
      rintro e w1 ⟨rfl, hb1⟩
      have K1 := Lib.hid (KW.out.below hb1 KW.out.lt)
      have hbr1 : Below wr.heap.size wr w1 := HbW.out.trans (hb1.mono HbW.out.size)
      have HO1 := Lib.hid (owns_below HOr.out hbr1 hlr)
      have HB1 : Hid (Below w.heap.size w w1) := HBr.out.trans (hbr1.mono HBr.out.size)
      clear hb1 hbr1 q0 q1 q2 q3 q4 q5 q6
      obtain ⟨k0, k1, k2, k3, k4, k5, k6⟩ := fork_cells K1.out
      cases hok : forkB r.p r.a r.b r.c r.x r.y r.z with
      | false =>
        have HE : Hid (namedD (xs.take (j + 1)) = namedD (xs.take j)) := by
          show _ = _
          rw [take_kth xs j hjx, named_snoc, HR.out, if_neg (by unfold okK; rw [hok]; decide)]
        clear hok
        go_wp2_with fail
        go_roundw
        case rel => exact ⟨j + 1, by omega, by go_num, by rw [HE.out]; exact HO1.out.mono (Nat.le_succ j), HB1⟩
        case measure => simp [intOf]; omega
      | true =>
        have HE : Hid (namedD (xs.take (j + 1)) = (namedD (xs.take j)).put (.int .i64 r.p) (.lit (.bool true))) := by
          show _ = _
          rw [take_kth xs j hjx, named_snoc, HR.out, if_pos (by unfold okK; exact hok)]
        have hwf : (Lit.int .i64 r.p).wf = true := by
          have h := ((forkB_iff _ _ _ _ _ _ _).1 hok).1
          have h2 := (signedB_iff _ _ _ _).1 h
          exact WalkArith.wf_i64 (by omega)
        have hkey : keyOf Try.prog 3 (.int .i64 r.p) = some (.int .i64 r.p) := keyOf_int_mk Try.underlying3 hwf
        clear hok
        go_wp2_with (first
          | (at_mapUpdate; refine wpList_mapUpdate_own _ rfl _ _ _ 48 rfl 3 4 (int_keyed Try.underlying3) Try.underlying48 _ w.heap.size j _ rfl HO1.out (by unfold maxLen; omega) _ _ _ rfl rfl hkey _ [] (plainElem_bool Try.underlying4 true) ?_; intro w2 hown2 hg2))
        go_roundw
        case rel => exact ⟨j + 1, by omega, by go_num, by rw [HE.out]; exact hown2, HB1.out.grown hg2 HB1.out.size (fun k hk => by cases hk; exact Nat.le_refl _)⟩
        case measure => simp [intOf]; omega
    · have hjn2 : j = n := by omega
      subst hjn2
      have HOx : Hid (wr.ownsMap Try.prog 3 (plainElem Try.prog 4) w.heap.size j (namedD xs)) := by
        have h := HOr.out
        rw [← HN.out, List.take_length, HN.out] at h
        exact h
      have hsz := owns_size HOx.out
      go_wp2_with fail
      refine (keysOf_any (some w.heap.size) wr).mono ?_
      rintro e w1 ⟨rfl, rfl⟩
      go_wp2_with fail
      refine (sortedOf_any w.heap.size j (namedD xs) _ wr HOx.out (by unfold maxLen; omega) (by omega)).mono ?_
      rintro e w2 ⟨v, ss, rfl, hS, hrow, hnil, hb2⟩
      go_wp2
      go_ret
      exact ⟨v, ss, rfl, hS, ownsRow_base_a hrow HBr.out.size, hnil, HBr.out.trans (hb2.mono HBr.out.size)⟩

end Go.Proofs.Ytkicfneikbiklaa
