/- The contract of the draw of a list of forks: at most five, in memory of the call's own. Condition: the code's bytes lie in memory. -/
import Derived.Test.YtheonknahkdfkaaDrawFork
import Derived.Test.YtheonknahkdfkaaNamedRows
namespace Go.Proofs.Ytheonknahkdfkaa
open Go.RowKit
set_option linter.unusedVariables false

theorem fork_info : (Try.prog.info? 32).map (fun i => (i.zero, i.size, i.bytes)) = some (some (.agg #[.int .i64 0, .int .i64 0, .int .i64 0, .int .i64 0, .int .i64 0, .int .i64 0, .int .i64 0]), 7, 56) := by kernel_rfl
theorem fork_app_info : ∃ i z, Try.prog.info? KK.e = some i ∧ i.zero = some z ∧ i.size = KK.k ∧ i.bytes = KK.by_ ∧ z.cells.size = KK.k := by
  obtain ⟨i0, hi0, hz0, hz1, hz2⟩ := info_parts fork_info
  exact ⟨i0, _, hi0, hz0, hz1, hz2, rfl⟩
def NamedDrawn (w : World) (e : Ending) (w' : World) : Prop :=
  ∃ (X : Option Addr) (x : Nat) (xs : List KD), e = .returned (.slice X xs.length x) ∧ OwnRow KK w' w.heap.size X x xs ∧ xs.length ≤ 5 ∧ Below w.heap.size w w'

set_option maxHeartbeats 4000000 in
set_option maxRecDepth 100000 in
theorem drawNamed_any (A : Option Addr) (len cap : Nat) (w : World) (hI : In w A len cap) :
    Calls Try.prog 7 #[.slice A len cap] w (NamedDrawn w) := by
  obtain ⟨i0, zz, hi0, hz0, hz1, hz2, hz3⟩ := fork_app_info
  have HI0 := Lib.hid (And.intro hi0 (And.intro hz0 (And.intro hz1 (And.intro hz2 hz3))))
  clear hi0 hz0 hz1 hz2 hz3
  have HI := Lib.hid hI
  clear hI
  go_enter Try.func7, Try.ntmps7
  go_wp2_with fail
  refine (open_any A len cap _ HI.out).mono ?_
  rintro e w1 ⟨len', cap', rfl, hR1, hb1⟩
  have hg1 : w.heap.size < w1.heap.size := hR1.lt
  obtain ⟨K, HK⟩ : ∃ K, Hid (w1.heap.size = K) := ⟨_, rfl⟩
  have hgK : w.heap.size < K := by rw [← HK.out]; exact hg1
  obtain ⟨w2, HW⟩ : ∃ W, Hid (w1.alloc (.cells #[] 32) = W) := ⟨_, rfl⟩
  have HR2 : Hid (Rd w2 w.heap.size w.heap.size A len' cap' 0) := by rw [← HW.out]; exact hR1.alloc _
  have HO2 : Hid (OwnRow KK w2 K (some ⟨w1.heap.size, 0, none⟩) 0 []) := by rw [← HW.out, ← HK.out]; exact OwnRow.new KK w1
  have HB2 : Hid (Below w.heap.size w w2) := by rw [← HW.out]; exact hb1.alloc hb1.size _
  have hK2 : K ≤ w2.heap.size := by rw [← HW.out, ← HK.out]; simp
  clear hR1 hb1
  go_upto_region 3 with fail
  rw [HW.out]
  go_wp2_with fail
  refine (pick_any 4 HR2.out (by omega) (by omega) (by omega)).mono ?_
  rintro e w3 ⟨n, hn, rfl, hR3, hg3, hz3⟩
  have HR3 := Lib.hid hR3
  have HO3 := Lib.hid (HO2.out.keep hg3 (fun k hk => by injection hk with hk; omega))
  have HB3 : Hid (Below w.heap.size w w3) := HB2.out.grown hg3 (by omega) (fun k hk => by injection hk with hk; omega)
  have hK3 : K ≤ w3.heap.size := Nat.le_trans hK2 hg3.size
  clear hR3 hg3 hz3
  go_wp2_with fail
  go_loopw [4, 6] (fun s i wr => ∃ (k x q : Nat) (X : Option Addr) (xs : List KD), k ≤ n ∧ s = .slice X k x ∧ i = .int .i64 (k : Int) ∧ q ≤ 1 + 200 * k ∧ K ≤ wr.heap.size ∧ Hid (xs.length = k) ∧ Hid (OwnRow KK wr K X x xs) ∧ Hid (Rd wr w.heap.size w.heap.size A len' cap' q) ∧ Hid (Below w.heap.size w wr)) (fun _ i _ => n - (intOf i).toNat)
  case atStart => exact ⟨0, 0, _, _, [], Nat.zero_le _, rfl, rfl, by omega, hK3, rfl, HO3, HR3, HB3⟩
  case round =>
    obtain ⟨k, x, q, X, xs, hk, rfl, rfl, hq, hKr, HN, HOr, HRr, HBr⟩ := hrel
    by_cases hlt : k < n
    · have hki : (k : Int) < (n : Int) := by omega
      go_wp2_with fail
      refine (drawfork_any HRr.out (by omega)).mono ?_
      rintro e wa ⟨fp, fa, fb, fc, fx, fy, fz, qa, rfl, hqa, hRa, hga⟩
      have HRa := Lib.hid hRa
      have HOa := Lib.hid (HOr.out.keep hga (fun k hk => by injection hk with hk; omega))
      have HBa : Hid (Below w.heap.size w wa) := HBr.out.grown hga (by omega) (fun k hk => by injection hk with hk; omega)
      have hKa : K ≤ wa.heap.size := Nat.le_trans hKr hga.size
      clear hRa hga
      go_wp2_with (at_builtin; refine wpList_app_row (K := KK) Try.underlying23 HI0.out.1 HI0.out.2.1 HI0.out.2.2.1 HI0.out.2.2.2.1 HI0.out.2.2.2.2 (by decide) rfl (.tmp 17) (.tmp 20) rfl _ K X x xs (by rw [HN.out]; rfl) _ _ [(⟨fp, fa, fb, fc, fx, fy, fz⟩ : KD)] rfl (HOa.out.alloc _) (one_newR KK wa ⟨fp, fa, fb, fc, fx, fy, fz⟩ _) (by rw [HN.out]; show k + 1 ≤ 1000000; omega) (by rw [World.size_alloc]; omega) (fun e => by cases e) ?_; intro v wc hA; obtain ⟨Y, y, rfl, hoc⟩ := hA.own; have hgc := hA.grown; have hbc := hA.below; have HMM : Hid ((xs ++ [(⟨fp, fa, fb, fc, fx, fy, fz⟩ : KD)]).length = k + 1) := (by show _ = _; rw [List.length_append, HN.out]; rfl); rw [HMM.out])
      have hfar : ∀ k, Value.ownBlock (.slice X xs.length x) = some k → w.heap.size ≤ k ∧ k ≠ w.heap.size := fun k hk => by have := HOa.out.far (n := xs.length) k hk; omega
      have HRc : Hid (Rd wc w.heap.size w.heap.size A len' cap' qa) := (HRa.out.alloc _).grown hgc hfar
      have HBc : Hid (Below w.heap.size w wc) := (HBa.out.alloc HBa.out.size _).trans (hbc.mono (by omega))
      have hKc : K ≤ wc.heap.size := Nat.le_trans (by rw [World.size_alloc]; omega) hbc.size
      have HOc := Lib.hid hoc
      clear hA hoc hgc hbc hfar
      go_wp2_with fail
      go_roundw
      case rel => exact ⟨k + 1, y, qa, Y, xs ++ [⟨fp, fa, fb, fc, fx, fy, fz⟩], by omega, rfl, by go_num, by omega, hKc, HMM, HOc, HRc, HBc⟩
      case measure => simp [intOf]; omega
    · have hkn : k = n := by omega
      subst hkn
      by_cases h0 : 0 < k
      · have h00 : (0 : Int) < (k : Int) := by omega
        go_wp2_with fail
        refine (pick_any 4 HRr.out (by omega) (by omega) (by omega)).mono ?_
        rintro e wa ⟨z, hz, rfl, hRa, hga, hza⟩
        have HOa := Lib.hid (HOr.out.keep hga (fun k hk => by injection hk with hk; omega))
        have HBa : Hid (Below w.heap.size w wa) := HBr.out.grown hga (by omega) (fun k hk => by injection hk with hk; omega)
        have hKa : K ≤ wa.heap.size := Nat.le_trans hKr hga.size
        clear hRa hga hza
        by_cases hz0 : z = 0
        · subst hz0
          obtain ⟨b, rfl, hb0, hb1⟩ := HOa.out.form (by rw [HN.out]; exact h0)
          obtain ⟨q0, q1, q2, q3, q4, q5, q6⟩ := fork_seven HOa.out.at_ 0 (by rw [HN.out]; exact h0)
          obtain ⟨⟨fp, fa, fb, fc, fx, fy, fz⟩, HR⟩ : ∃ r, Hid (kth xs 0 = r) := ⟨_, rfl⟩
          rw [HR.out] at q0 q1 q2 q3 q4 q5 q6
          simp only [Nat.zero_mul, Nat.zero_add] at q0 q1 q2 q3 q4 q5 q6
          go_wp2_with (at_builtin; refine wpList_app_row (K := KK) Try.underlying23 HI0.out.1 HI0.out.2.1 HI0.out.2.2.1 HI0.out.2.2.2.1 HI0.out.2.2.2.2 (by decide) rfl (.tmp 29) (.tmp 33) rfl _ K (some ⟨b, 0, none⟩) x xs (by rw [HN.out]; rfl) _ _ [(⟨fp, fa, fb, fc, fx, fy, fz⟩ : KD)] rfl (HOa.out.alloc _) (one_newR KK wa ⟨fp, fa, fb, fc, fx, fy, fz⟩ _) (by rw [HN.out]; show k + 1 ≤ 1000000; omega) (by rw [World.size_alloc]; omega) (fun e => by cases e) ?_; intro v wc hA; obtain ⟨Y, y, rfl, hoc⟩ := hA.own; have hbc := hA.below; have HMM : Hid ((xs ++ [(⟨fp, fa, fb, fc, fx, fy, fz⟩ : KD)]).length = k + 1) := (by show _ = _; rw [List.length_append, HN.out]; rfl); rw [HMM.out])
          have HBc : Hid (Below w.heap.size w wc) := (HBa.out.alloc HBa.out.size _).trans (hbc.mono (by omega))
          have HOc := Lib.hid (hoc.base_le (b := w.heap.size) (by omega))
          clear hA hoc hbc
          go_wp2
          go_ret
          exact ⟨Y, y, xs ++ [⟨fp, fa, fb, fc, fx, fy, fz⟩], by rw [HMM.out]; first | done | rfl, HOc.out, by rw [HMM.out]; omega, HBc.out⟩
        · have hzi : ((z : Int) == 0) = false := by rw [beq_eq_false_iff_ne]; omega
          have HOw := Lib.hid (HOa.out.base_le (b := w.heap.size) (by omega))
          go_wp2
          go_ret
          exact ⟨X, x, xs, by rw [HN.out]; first | done | rfl, HOw.out, by rw [HN.out]; omega, HBa.out⟩
      · have hm0 : k = 0 := by omega
        subst hm0
        have HOw := Lib.hid (HOr.out.base_le (b := w.heap.size) (by omega))
        go_wp2
        go_ret
        exact ⟨X, x, xs, by rw [HN.out]; first | done | rfl, HOw.out, by rw [HN.out]; omega, HBr.out⟩

end Go.Proofs.Ytheonknahkdfkaa
