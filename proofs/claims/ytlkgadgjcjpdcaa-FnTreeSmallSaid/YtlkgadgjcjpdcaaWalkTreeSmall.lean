/- The walk of FnTreeSmall: it returns true and changes nothing that was there. Condition: the codes' bytes lie in memory. -/
import Derived.Test.YtlkgadgjcjpdcaaPeaks
import Derived.Test.YtlkgadgjcjpdcaaPeakLaws
import Derived.Test.YtlkgadgjcjpdcaaDrawDigest
import Derived.Test.YtlkgadgjcjpdcaaPairs
import Derived.Test.YtlkgadgjcjpdcaaSpecProof
import Derived.Test.YtlkgadgjcjpdcaaIn
namespace Go.Proofs.Ytlkgadgjcjpdcaa
open Go.RowKit
set_option linter.unusedVariables false

theorem digest_one {x : Int} (h : 0 ≤ x ∧ x < 991) : digestOr [x] = pairOr 1 x := by
  have hd : Digs [x] := by
    intro y hy
    rw [List.mem_singleton] at hy
    subst hy
    exact h
  rw [digestOr_of (by simp) hd, pairOr_y (by omega) h]
  rfl

set_option maxHeartbeats 4000000 in
set_option maxRecDepth 100000 in
theorem walkTreeSmall (A : Option Addr) (len cap : Nat) (w : World) (hI : In w A len cap) :
    Calls Try.prog 3 #[.slice A len cap] w fun e w' => e = .returned (.bool true) ∧ Below w.heap.size w w' := by
  have hm := hI.len_le
  unfold maxLen at hm
  have HI := Lib.hid hI
  clear hI
  by_cases hlen : len ≤ 1048576
  · go_enter Try.func3, Try.ntmps3
    go_wp2_with fail
    refine (drawdigest_any A len cap _ HI.out).mono ?_
    rintro e w1 ⟨b, c, zs, rfl, hz28, hnear, hown1, hb1⟩
    have HO1 := Lib.hid hown1
    have HB1 := Lib.hid hb1
    have HNR := Lib.hid hnear
    clear hown1 hb1 hnear
    go_wp2_with fail
    refine (digest_any zs b 0 c _ HO1.out.ints HO1.out.le.1 HO1.out.le.2).mono ?_
    rintro e w2 ⟨rfl, hb2⟩
    have HB2 := Lib.hid hb2
    clear hb2
    go_wp2_with fail
    refine (sdigest_any zs b 0 c _ (HO1.out.below HB2.out).ints HO1.out.le.1 HO1.out.le.2).mono ?_
    rintro e w3 ⟨rfl, hb3⟩
    have HZ3 := Lib.hid ((HO1.out.below HB2.out).below hb3)
    have HB : Hid (Below w.heap.size w w3) := (HB1.out.trans (HB2.out.mono HB1.out.size)).trans (hb3.mono (Nat.le_trans HB1.out.size HB2.out.size))
    clear hb3
    rcases digestOr_cases zs with h | ⟨h16, hd, h, hz0, hz1⟩
    · rw [h]
      clear h
      go_wp2
      go_ret
      exact ⟨rfl, HB.out⟩
    · rw [h]
      have HD := Lib.hid hd
      obtain ⟨t, HT⟩ : ∃ t, Hid (digestZ zs = t) := ⟨_, rfl⟩
      rw [HT.out] at hz0 hz1 ⊢
      have hneg : decide (t < 0) = false := by simp; omega
      clear h hd hz28
      obtain ⟨n, HN⟩ : ∃ n, Hid (zs.length = n) := ⟨_, rfl⟩
      rw [HN.out] at h16 ⊢
      by_cases hn0 : n = 0
      · subst hn0
        go_wp2
        go_ret
        exact ⟨ret_bool (by simp), HB.out⟩
      · have hnb : ((n : Int) == 0) = false := by rw [beq_eq_false_iff_ne]; omega
        have hz0n : 0 < zs.length := by rw [HN.out]; omega
        have HLE := HZ3.out.le
        have hc1 : (1 : Int) ≤ (c : Int) := by have := HLE.1; omega
        have hn1 : (0 : Int) < (n : Int) := by omega
        have h0n : 0 < n := by omega
        obtain ⟨V, HVV⟩ : ∃ V, Hid (w3 = V) := ⟨_, rfl⟩
        rw [HVV.out] at HZ3 HB ⊢
        have hc0 : V.cell? ⟨b, 0, none⟩ = some (.int .i64 (nth zs 0)) := by
          have h1 := (HZ3.out.ints.lt (by omega)).2 0 hz0n
          exact h1
        have hbV : b < V.heap.size := (HZ3.out.ints.lt (by omega)).1
        have hl1 : (zs.take 1).length = 1 := by rw [List.length_take]; omega
        obtain ⟨v0, v1⟩ := HD.out.at_ 0 hz0n
        obtain ⟨x, HX⟩ : ∃ x, Hid (nth zs 0 = x) := ⟨_, rfl⟩
        have hdt : digestOr (zs.take 1) = pairOr 1 x := by
          have e1 : zs.take 1 = [x] := by
            rw [← HX.out]
            cases zs with
            | nil => simp at hz0n
            | cons a l => rfl
          rw [e1]
          exact digest_one (by rw [← HX.out]; exact ⟨v0, v1⟩)
        have hpf : proofOr (zs.take 1) 0 = [] := by
          by_cases hh : leavesB (zs.take 1) = true ∧ (0 : Int) ≤ 0 ∧ (0 : Int) < ((zs.take 1).length : Int)
          · have h2 := proofOr_yes (i := 0) hh.1 (by omega)
            have h3 := proofZ_length (zs.take 1) 0 (by omega) (by omega)
            rw [hl1] at h3
            have h4 : proofLen 1 0 = 0 := by decide
            rw [h4] at h3
            rw [show ((0 : Nat) : Int) = 0 from rfl] at h2
            rw [h2]
            exact List.length_eq_zero_iff.1 h3
          · exact proofOr_no hh
        rw [HX.out] at hc0 v0 v1
        obtain ⟨u, HU⟩ : ∃ u, Hid (pairOr 1 x = u) := ⟨_, rfl⟩
        have C0 : Hid (∀ (g : Nat) (W : World), Calls Try.prog 6 #[.slice (some ⟨g, 0, none⟩) 0 0] W fun e w' => e = .returned (.int .i64 0) ∧ Below W.heap.size W w') := fun g W => by
          have := digest_any [] g 0 0 W IntsAt.nil (Nat.le_refl _) (Nat.zero_le _)
          exact this
        have C1 : Hid (∀ W : World, Below V.heap.size V W → Calls Try.prog 6 #[.slice (some ⟨b, 0, none⟩) 1 c] W fun e w' => e = .returned (.int .i64 u) ∧ Below W.heap.size W w') := fun W hW => by
          have h := (HZ3.out.below hW).ints.first 1
          have := digest_any (zs.take 1) b 0 c W h (by have := HLE.1; omega) HLE.2
          rw [hl1, hdt, HU.out] at this
          exact this
        have C2 : Hid (∀ W : World, Below V.heap.size V W → Calls Try.prog 9 #[.slice (some ⟨b, 0, none⟩) 1 c, .int .i64 0] W (RetInts W [])) := fun W hW => by
          have h := (HZ3.out.below hW).ints.first 1
          have := proof_any (zs.take 1) 0 b 0 c W h (by have := HLE.1; omega) HLE.2
          rw [hl1, hpf] at this
          exact this
        clear hl1 hdt hpf HLE hz0n
        go_wp2_with fail
        go_region_held3 (fun w' => w'.cell? ⟨b, 0, none⟩ = some (.int .i64 x)) (go_keep)
          (first
            | (go_at_call 8; (with_reducible refine (pair_any 1 x _).mono ?_); rintro e w' ⟨rfl, rfl⟩; rw [HU.out])
            | (go_at_call 6; (with_reducible refine (C0.out V.heap.size (V.alloc (.cells #[] 3)).drew).mono ?_); rintro e w5 ⟨rfl, hb5⟩; have HB5 : Hid (Below V.heap.size V w5) := ((Below.refl _ _).alloc (Nat.le_refl _) _).trans ((below_drew_l hb5).mono (by simp)); have f0 : w5.cell? ⟨b, 0, none⟩ = some (.int .i64 x) := ((HB5.out.cell (p := ⟨b, 0, none⟩) hbV).trans hc0); clear hb5)
            | (go_at_call 6; (with_reducible refine (C1.out w5 HB5.out).mono ?_); rintro e w6 ⟨rfl, hb6⟩; have HB6 : Hid (Below V.heap.size V w6) := HB5.out.trans (hb6.mono HB5.out.size); have g0 : w6.cell? ⟨b, 0, none⟩ = some (.int .i64 x) := ((HB6.out.cell (p := ⟨b, 0, none⟩) hbV).trans hc0); clear hb6)
            | (go_at_call 9; (with_reducible refine (C2.out w6 HB6.out).mono ?_); rintro e w7 ⟨A7, c7, rfl, hown7, hb7⟩; have HB7 : Hid (Below V.heap.size V w7) := HB6.out.trans (hb7.mono HB6.out.size); have k0 : w7.cell? ⟨b, 0, none⟩ = some (.int .i64 x) := ((HB7.out.cell (p := ⟨b, 0, none⟩) hbV).trans hc0); clear hown7 hb7))
        go_wp2
        go_ret
        exact ⟨rfl, HB.out.trans (HB7.out.mono HB.out.size)⟩
  · have h9 : 1048576 < len := by omega
    clear hlen
    go_enter Try.func3, Try.ntmps3
    go_wp2
    go_ret
    exact ⟨rfl, Below.refl _ _⟩

end Go.Proofs.Ytlkgadgjcjpdcaa
