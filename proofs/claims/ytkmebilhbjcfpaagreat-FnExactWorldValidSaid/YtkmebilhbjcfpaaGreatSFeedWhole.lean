/- Contracts of l11Whole and of the model of FeedValid: it reports whether a feed is valid, and changes nothing that was there. Condition: the feed lies in memory. -/
import Derived.Test.YtkmebilhbjcfpaaGreatFeedValid
import Derived.Test.YtkmebilhbjcfpaaGreatBaseE
import Derived.Deep.RegionHeld3
namespace Go.Proofs.YtkmebilhbjcfpaaGreat
open Go.RowKit
set_option linter.unusedVariables false

theorem cnt_full (hs : List Bool) : ∀ k, k ≤ hs.length → (cntB (hs.take k) = k ↔ ∀ j, j < k → bth hs j = true) := by
  intro k
  induction k with
  | zero => intro _; exact ⟨fun _ j hj => absurd hj (Nat.not_lt_zero _), fun _ => rfl⟩
  | succ k ih =>
    intro hk
    have h1 := cntB_next hs k (by omega)
    have h2 := cntB_le (hs.take k)
    rw [List.length_take] at h2
    have ih' := ih (by omega)
    constructor
    · intro e j hj
      rw [h1] at e
      cases hb : bth hs k with
      | false => rw [hb] at e; simp at e; omega
      | true =>
        rw [hb] at e
        simp at e
        by_cases ej : j = k
        · subst ej; exact hb
        · exact ih'.1 e j (by omega)
    · intro h
      rw [h1, h k (by omega), ih'.2 fun j hj => h j (by omega)]
      rfl
theorem cnt_whole (hs : List Bool) : ((cntB hs : Int) == (hs.length : Int)) = noneF hs := by
  have h := cnt_full hs hs.length (Nat.le_refl _)
  rw [List.take_of_length_le (Nat.le_refl _)] at h
  unfold noneF
  by_cases e : cntB hs = hs.length
  · rw [e, decide_eq_true (h.1 e)]; simp
  · rw [decide_eq_false fun k => e (h.2 k)]; rw [beq_eq_false_iff_ne]; omega

set_option maxHeartbeats 1000000 in
theorem swhole_any (p l d s : Int) (A1 : Option Addr) (n1 c1 : Nat) (A2 : Option Addr) (c2 : Nat) (hs : List Bool) (w : World) (h : BoolsAt w w.heap.size A2 hs) (hm : hs.length ≤ maxLen) :
    Calls Tryz.prog 22 #[feedV p l d s A1 n1 c1 A2 hs.length c2] w fun e w' => e = .returned (.bool (noneF hs)) ∧ Below w.heap.size w w' := by
  have HF := Lib.hid h
  have HM := Lib.hid hm
  have HE := Lib.hid (cnt_whole hs)
  obtain ⟨W, HW⟩ : ∃ W, Hid (w.alloc (.cells (feedC p l d s A1 n1 c1 A2 hs.length c2) 56) = W) := ⟨_, rfl⟩
  have HK : Hid (Blk W w.heap.size 56 (feedC p l d s A1 n1 c1 A2 hs.length c2)) := by rw [← HW.out]; exact Blk.new w _ _
  have HB : Hid (Below w.heap.size w W) := by rw [← HW.out]; exact (Below.refl _ w).alloc (Nat.le_refl _) _
  obtain ⟨k0, k1, k2, k3, k4, k5⟩ := feed_cells HK.out
  unfold maxLen at hm
  clear h
  go_enter Tryz.func22, Tryz.ntmps22
  go_wp2_with fail
  rw [HW.out]
  go_quiet ((go_at_call 58; exact quiet_left (scount_any _ _ hs _ ((HF.out.belowS HB.out).drewN _) HM.out)))
  go_wp2
  go_ret
  exact ⟨ret_bool HE.out, below_drewN HB.out _⟩

end Go.Proofs.YtkmebilhbjcfpaaGreat
