/- Contracts of HeadCheck and of its model: whether a head is signed. No conditions. -/
import Derived.Test.YtgpmodidpdjhkaaHeadCheck
import Derived.Test.YtgpmodidpdjhkaaNodes
namespace Go.Proofs.Ytgpmodidpdjhkaa
open Go.RowKit
set_option linter.unusedVariables false

set_option maxHeartbeats 1600000 in
theorem check_any (p l d s : Int) (w : World) :
    Calls Try.prog 41 #[.int .i64 p, .agg #[.int .i64 l, .int .i64 d, .int .i64 s]] w fun e w' => e = .returned (.bool (signedB p l d s)) ∧ Below w.heap.size w w' := by
  by_cases hp : 1 ≤ p ∧ p < 997
  · by_cases hr : (0 ≤ l ∧ l ≤ 16) ∧ (0 ≤ d ∧ d < 991) ∧ (1 ≤ s ∧ s < 997)
    · have HE : Hid (signedB p l d s = (s * 5 % 997 == p * msgZ l d % 997)) := by
        show _ = _
        unfold signedB
        rw [Bool.eq_iff_iff, decide_eq_true_eq, beq_iff_eq]
        exact ⟨fun h => h.2.2.2.2, fun h => ⟨hp, hr.1, hr.2.1, hr.2.2, h⟩⟩
      obtain ⟨p0, p1⟩ := hp
      obtain ⟨⟨l0, l1⟩, ⟨d0, d1⟩, s0, s1⟩ := hr
      obtain ⟨m0, m1⟩ := msgZ_bd l d
      rw [HE.out]
      go_enter Try.func41, Try.ntmps41
      go_wp2_with fail
      go_region
      go_wp2_with fail
      refine (key_yes _ _ p0 p1).mono ?_
      rintro e w' ⟨rfl, rfl⟩
      go_wp2_with fail
      refine (range_yes d l s _ l0 l1 d0 d1 s0 s1).mono ?_
      rintro e V ⟨rfl, hb⟩
      have HB : Hid (Below w.heap.size w V) := (below_drew (((Below.refl _ _).alloc (Nat.le_refl _) _).alloc (by simp) _)).trans (hb.mono (by simp; omega))
      have hz : w.heap.size + 1 < V.heap.size := by have := hb.size; simp at this; omega
      have hblk : Blk V (w.heap.size + 1) 98 #[.int .i64 d, .int .i64 l, .int .i64 s] := by
        have h := Blk.new (w.alloc (.cells #[.int .i64 l, .int .i64 d, .int .i64 s] 25)) 98 #[.int .i64 d, .int .i64 l, .int .i64 s]
        rw [World.size_alloc] at h
        exact Blk.below (w := ((w.alloc (.cells #[.int .i64 l, .int .i64 d, .int .i64 s] 25)).alloc (.cells #[.int .i64 d, .int .i64 l, .int .i64 s] 98)).drew) h hb (by simp)
      have c0 := hblk.cell 0
      have c1 := hblk.cell 1
      have c2 := hblk.cell 2
      simp only [List.getElem?_toArray] at c0 c1 c2
      have C0 : V.cell? ⟨w.heap.size + 1, 0, none⟩ = some (.int .i64 d) := c0
      have C1 : V.cell? ⟨w.heap.size + 1, 1, none⟩ = some (.int .i64 l) := c1
      have C2 : V.cell? ⟨w.heap.size + 1, 2, none⟩ = some (.int .i64 s) := c2
      clear hb hblk c0 c1 c2
      go_wp2_with fail
      go_region_held3 (fun w' => w'.cell? ⟨w.heap.size + 1, 0, none⟩ = some (.int .i64 d) ∧ w'.cell? ⟨w.heap.size + 1, 1, none⟩ = some (.int .i64 l) ∧ w'.cell? ⟨w.heap.size + 1, 2, none⟩ = some (.int .i64 s)) (go_keep)
        (first
          | (go_at_call 83; (with_reducible refine (times_any _ _ _ (by omega) (by omega) (by omega) (by omega)).mono ?_); rintro e w' ⟨rfl, rfl⟩)
          | (go_at_call 84; (with_reducible refine (message_any d l s _ l0 l1 d0 d1).mono ?_); rintro e w6 ⟨rfl, hb6⟩; have HB6 : Hid (Below V.heap.size V w6) := below_drew_l hb6; have e1 : w6.cell? ⟨w.heap.size + 1, 0, none⟩ = some (.int .i64 d) := ((HB6.out.cell (p := ⟨w.heap.size + 1, 0, none⟩) hz).trans C0); have e2 : w6.cell? ⟨w.heap.size + 1, 1, none⟩ = some (.int .i64 l) := ((HB6.out.cell (p := ⟨w.heap.size + 1, 1, none⟩) hz).trans C1); have e3 : w6.cell? ⟨w.heap.size + 1, 2, none⟩ = some (.int .i64 s) := ((HB6.out.cell (p := ⟨w.heap.size + 1, 2, none⟩) hz).trans C2); clear hb6))
      go_wp2
      go_ret
      exact ⟨rfl, HB.out.trans (HB6.out.mono HB.out.size)⟩
    · have HE : Hid (signedB p l d s = false) := signedB_no fun k => hr ⟨k.2.1, k.2.2.1, k.2.2.2.1⟩
      have HR := Lib.hid hr
      clear hr
      obtain ⟨p0, p1⟩ := hp
      rw [HE.out]
      go_enter Try.func41, Try.ntmps41
      go_wp2_with fail
      go_region
      go_wp2_with fail
      refine (key_yes _ _ p0 p1).mono ?_
      rintro e w' ⟨rfl, rfl⟩
      go_wp2_with fail
      refine (range_no d l s _ HR.out).mono ?_
      rintro e V ⟨rfl, hb⟩
      have HB : Hid (Below w.heap.size w V) := (below_drew (((Below.refl _ _).alloc (Nat.le_refl _) _).alloc (by simp) _)).trans (hb.mono (by simp; omega))
      clear hb
      go_wp2
      go_ret
      exact ⟨rfl, HB.out⟩
  · have HE : Hid (signedB p l d s = false) := signedB_no fun k => hp k.1
    have HP := Lib.hid hp
    clear hp
    rw [HE.out]
    go_enter Try.func41, Try.ntmps41
    go_wp2_with fail
    go_region
    go_wp2_with fail
    refine (key_no _ _ HP.out).mono ?_
    rintro e w' ⟨rfl, rfl⟩
    go_wp2
    go_ret
    exact ⟨rfl, below_drew (((Below.refl _ _).alloc (Nat.le_refl _) _).alloc (by simp) _)⟩

end Go.Proofs.Ytgpmodidpdjhkaa
