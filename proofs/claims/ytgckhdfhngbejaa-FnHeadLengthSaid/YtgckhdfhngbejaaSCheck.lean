/- Contract of the model of HeadCheck: whether a head is signed. No conditions. -/
import Derived.Test.YtgckhdfhngbejaaHeadCheck
import Derived.Test.YtgckhdfhngbejaaSpecTree
namespace Go.Proofs.Ytgckhdfhngbejaa
open Go.RowKit
set_option linter.unusedVariables false

set_option maxHeartbeats 4000000 in
set_option maxRecDepth 100000 in
theorem scheck_any (p l d s : Int) (w : World) :
    Calls Try.prog 20 #[.int .i64 p, .agg #[.int .i64 l, .int .i64 d, .int .i64 s]] w fun e w' => e = .returned (.bool (signedB p l d s)) ∧ Below w.heap.size w w' := by
  by_cases hp : 1 ≤ p ∧ p < 997
  · by_cases hl : 0 ≤ l ∧ l ≤ 16
    · by_cases hd : 0 ≤ d ∧ d < 991
      · by_cases hs : 1 ≤ s ∧ s < 997
        · have HE : Hid (signedB p l d s = (s * 5 % 997 == p * msgZ l d % 997)) := by
            show _ = _
            unfold signedB
            rw [Bool.eq_iff_iff, decide_eq_true_eq, beq_iff_eq]
            exact ⟨fun h => h.2.2.2.2, fun h => ⟨hp, hl, hd, hs, h⟩⟩
          obtain ⟨m0, m1⟩ := msgZ_bd l d
          obtain ⟨q0, q1⟩ := mul_bd p (msgZ l d) (by omega) (by omega) (by omega) (by omega)
          obtain ⟨p0, p1⟩ := hp
          obtain ⟨l0, l1⟩ := hl
          obtain ⟨d0, d1⟩ := hd
          obtain ⟨s0, s1⟩ := hs
          have k1 : IntKind.i64.wrap (s * 5) = s * 5 := IntWalk.i64_in _ (by omega)
          have k2 : IntKind.i64.wrap (p * msgZ l d) = p * msgZ l d := IntWalk.i64_in _ (by omega)
          have k3 : (s * 5).tmod 997 = s * 5 % 997 := Int.tmod_eq_emod_of_nonneg (by omega)
          have k4 : (p * msgZ l d).tmod 997 = p * msgZ l d % 997 := Int.tmod_eq_emod_of_nonneg (by omega)
          rw [HE.out]
          go_enter Try.func20, Try.ntmps20
          go_wp2_with fail
          go_quiet ((first | (go_at_call 35; exact quiet_left (skey_yes _ _ (by omega) (by omega))) | (go_at_call 44; exact quiet_left (in_yes _ _ _ _ l0 l1)) | (go_at_call 45; exact quiet_left (sdig_yes _ _ d0 d1)) | (go_at_call 38; exact quiet_left (smsg_any _ _ _ l0 l1 d0 d1))))
          clear k1 k2 k3 k4
          go_wp2
          go_ret
          exact ⟨rfl, below_drewN ((Below.refl _ _).alloc (Nat.le_refl _) _) _⟩
        · have HE : Hid (signedB p l d s = false) := signedB_no fun k => hs k.2.2.2.1
          have HS := Lib.hid hs
          obtain ⟨p0, p1⟩ := hp
          obtain ⟨l0, l1⟩ := hl
          obtain ⟨d0, d1⟩ := hd
          clear hs
          rw [HE.out]
          go_enter Try.func20, Try.ntmps20
          go_wp2_with fail
          go_quiet ((first | (go_at_call 35; exact quiet_left (skey_yes _ _ p0 p1)) | (go_at_call 44; exact quiet_left (in_yes _ _ _ _ l0 l1)) | (go_at_call 45; exact quiet_left (sdig_yes _ _ d0 d1)) | (go_at_call 35; exact quiet_left (skey_no _ _ HS.out))))
          go_wp2
          go_ret
          exact ⟨rfl, below_drewN ((Below.refl _ _).alloc (Nat.le_refl _) _) _⟩
      · have HE : Hid (signedB p l d s = false) := signedB_no fun k => hd k.2.2.1
        have HS := Lib.hid hd
        obtain ⟨p0, p1⟩ := hp
        obtain ⟨l0, l1⟩ := hl
        clear hd
        rw [HE.out]
        go_enter Try.func20, Try.ntmps20
        go_wp2_with fail
        go_quiet ((first | (go_at_call 35; exact quiet_left (skey_yes _ _ p0 p1)) | (go_at_call 44; exact quiet_left (in_yes _ _ _ _ l0 l1)) | (go_at_call 45; exact quiet_left (sdig_no _ _ HS.out))))
        go_wp2
        go_ret
        exact ⟨rfl, below_drewN ((Below.refl _ _).alloc (Nat.le_refl _) _) _⟩
    · have HE : Hid (signedB p l d s = false) := signedB_no fun k => hl k.2.1
      have HS := Lib.hid hl
      obtain ⟨p0, p1⟩ := hp
      clear hl
      rw [HE.out]
      go_enter Try.func20, Try.ntmps20
      go_wp2_with fail
      go_quiet ((first | (go_at_call 35; exact quiet_left (skey_yes _ _ p0 p1)) | (go_at_call 44; exact quiet_left (in_no _ _ _ _ HS.out))))
      go_wp2
      go_ret
      exact ⟨rfl, below_drewN ((Below.refl _ _).alloc (Nat.le_refl _) _) _⟩
  · have HE : Hid (signedB p l d s = false) := signedB_no fun k => hp k.1
    have HS := Lib.hid hp
    clear hp
    rw [HE.out]
    go_enter Try.func20, Try.ntmps20
    go_wp2_with fail
    go_quiet ((first | (go_at_call 35; exact quiet_left (skey_no _ _ HS.out))))
    go_wp2
    go_ret
    exact ⟨rfl, below_drewN ((Below.refl _ _).alloc (Nat.le_refl _) _) _⟩

end Go.Proofs.Ytgckhdfhngbejaa
