/- The walk of FnHeadEmpty: it returns true and changes nothing that was there. Condition: the code's bytes lie in memory. -/
import Derived.Test.YtgckhdfhngbejaaMade
import Derived.Test.YtgckhdfhngbejaaDrawSecret
import Derived.Test.YtgckhdfhngbejaaIn
namespace Go.Proofs.Ytgckhdfhngbejaa
open Go.RowKit
set_option linter.unusedVariables false

set_option maxHeartbeats 2000000 in
set_option maxRecDepth 100000 in
theorem walkHeadEmpty (A : Option Addr) (len cap : Nat) (w : World) (hI : In w A len cap) :
    Calls Try.prog 8 #[.slice A len cap] w fun e w' => e = .returned (.bool true) ∧ Below w.heap.size w w' := by
  have hm := hI.len_le
  unfold maxLen at hm
  have HI := Lib.hid hI
  clear hI
  by_cases hlen : len ≤ 1048576
  · go_enter Try.func8, Try.ntmps8
    go_wp2_with fail
    refine (drawpublic_any A len cap _ HI.out).mono ?_
    rintro e w1 ⟨s, h1, h2, rfl, hb1⟩
    have HB1 := Lib.hid hb1
    clear hb1
    go_wp2_with fail
    refine (public_any _ _).mono ?_
    rintro e w' ⟨rfl, rfl⟩
    go_wp2_with fail
    refine (spublic_any _ _).mono ?_
    rintro e w' ⟨rfl, rfl⟩
    by_cases hs : 1 ≤ s ∧ s < 997
    · obtain ⟨t0, t1⟩ := publicOr_bd hs
      have HSG : Hid (signedB (publicOr s) 0 0 (signZ s (msgZ 0 0)) = true) := signed_made s 0 0 hs (by omega) (by omega)
      obtain ⟨p, HP⟩ : ∃ p, Hid (publicOr s = p) := ⟨_, rfl⟩
      obtain ⟨t, HT⟩ : ∃ t, Hid (signZ s (msgZ 0 0) = t) := ⟨_, rfl⟩
      rw [HP.out] at t0 t1 ⊢
      rw [HP.out, HT.out] at HSG
      have htz : (p == 0) = false := by rw [beq_eq_false_iff_ne]; omega
      have C : Hid (∀ (b : Nat) (W : World), Calls Try.prog 14 #[.int .i64 s, .slice (some ⟨b, 0, none⟩) 0 0] W fun e w' => e = .returned (.tuple #[headV 0 0 t, .bool true]) ∧ Below W.heap.size W w') := fun b W => by
        have := make_yes s [] b 0 0 W hs.1 hs.2 rfl IntsAt.nil (Nat.le_refl _) (Nat.zero_le _)
        rw [← HT.out]
        exact this
      have hz1 : w.heap.size ≤ w1.heap.size := HB1.out.size
      clear hs
      go_wp2_with fail
      refine (C.out _ _).mono ?_
      rintro e w2 ⟨rfl, hb2⟩
      have HB2 : Hid (Below w.heap.size w w2) := (HB1.out.alloc hz1 _).trans (hb2.mono (by simp; omega))
      have hz2 : w.heap.size ≤ w2.heap.size := HB2.out.size
      clear hb2
      go_wp2_with fail
      refine (check_any p 0 0 t _).mono ?_
      rintro e w3 ⟨rfl, hb3⟩
      rw [HSG.out]
      have HB3 : Hid (Below w.heap.size w w3) := (HB2.out.alloc hz2 _).trans (hb3.mono (by simp; omega))
      clear hb3
      go_wp2
      go_ret
      exact ⟨rfl, HB3.out⟩
    · have HE := Lib.hid (publicOr_n hs)
      rw [HE.out]
      clear hs
      go_wp2
      go_ret
      exact ⟨rfl, HB1.out⟩
  · have h9 : 1048576 < len := by omega
    clear hlen
    go_enter Try.func8, Try.ntmps8
    go_wp2
    go_ret
    exact ⟨rfl, Below.refl _ _⟩

end Go.Proofs.Ytgckhdfhngbejaa
