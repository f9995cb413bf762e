/- The plain mathematics of keys and signatures: products modulo the prime 997 can be cancelled; what a signature accepts, and what it does not. Conditions: as each statement says. -/
import Derived.Test.YtgpmodidpdjhkaaDig
namespace Go.Proofs.Ytgpmodidpdjhkaa

def keyB (k : Int) : Bool := decide (1 ≤ k) && decide (k < 997)
theorem keyB_iff (k : Int) : keyB k = true ↔ 1 ≤ k ∧ k < 997 := by simp [keyB]
theorem keyB_not (k : Int) : keyB k = false ↔ ¬ (1 ≤ k ∧ k < 997) := by rw [← keyB_iff]; simp
/-- The public key of a secret. -/
def publicOr (s : Int) : Int := if 1 ≤ s ∧ s < 997 then s * 5 % 997 else 0
theorem publicOr_y {s : Int} (h : 1 ≤ s ∧ s < 997) : publicOr s = s * 5 % 997 := by unfold publicOr; rw [if_pos h]
theorem publicOr_n {s : Int} (h : ¬ (1 ≤ s ∧ s < 997)) : publicOr s = 0 := by unfold publicOr; rw [if_neg h]
/-- What is signed. -/
def msgZ (n d : Int) : Int := pairZ n d + 1
theorem msgZ_bd (n d : Int) : 1 ≤ msgZ n d ∧ msgZ n d ≤ 991 := by have := pairZ_bd n d; unfold msgZ; omega
def signZ (s m : Int) : Int := s * m % 997
theorem cop_all : ∀ a, a < 997 → (a = 0 ∨ Nat.gcd 997 a = 1) := by decide +kernel
theorem cancel (a x y : Int) (ha : 1 ≤ a ∧ a < 997) (hx : 0 ≤ x ∧ x < 997) (hy : 0 ≤ y ∧ y < 997) (e : a * x % 997 = a * y % 997) : x = y := by
  have h0 : (a * x - a * y) % 997 = 0 := Int.emod_eq_emod_iff_emod_sub_eq_zero.1 e
  have h1 : (997 : Int) ∣ a * (x - y) := by rw [Int.mul_sub]; exact Int.dvd_of_emod_eq_zero h0
  have h2 : 997 ∣ a.natAbs * (x - y).natAbs := by
    have := Int.natAbs_dvd_natAbs.2 h1
    rwa [Int.natAbs_mul] at this
  have h3 : Nat.gcd 997 a.natAbs = 1 := by
    rcases cop_all a.natAbs (by omega) with h | h
    · omega
    · exact h
  have h4 : 997 ∣ (x - y).natAbs := Nat.Coprime.dvd_of_dvd_mul_left h3 h2
  have h5 : (x - y).natAbs = 0 := Nat.eq_zero_of_dvd_of_lt h4 (by omega)
  omega
theorem prod_bd (a x : Int) (ha : 1 ≤ a ∧ a < 997) (hx : 1 ≤ x ∧ x < 997) : 1 ≤ a * x % 997 ∧ a * x % 997 < 997 := by
  have h1 : a * x % 997 ≠ 0 := fun e => by
    have := cancel a x 0 ha (by omega) (by omega) (by rw [e, Int.mul_zero]; rfl)
    omega
  omega
theorem signZ_bd (s n d : Int) (h : 1 ≤ s ∧ s < 997) : 1 ≤ signZ s (msgZ n d) ∧ signZ s (msgZ n d) < 997 := by
  have := msgZ_bd n d
  exact prod_bd s _ h (by omega)
theorem publicOr_bd {s : Int} (h : 1 ≤ s ∧ s < 997) : 1 ≤ publicOr s ∧ publicOr s < 997 := by
  rw [publicOr_y h]; exact prod_bd s 5 h (by omega)
theorem publicOr_any (s : Int) : 0 ≤ publicOr s ∧ publicOr s < 997 := by
  by_cases h : 1 ≤ s ∧ s < 997
  · have := publicOr_bd h; omega
  · rw [publicOr_n h]; omega
theorem publicOr_inj {s t : Int} (h : 1 ≤ s ∧ s < 997) (k : 1 ≤ t ∧ t < 997) (e : publicOr s = publicOr t) : s = t := by
  rw [publicOr_y h, publicOr_y k, Int.mul_comm s, Int.mul_comm t] at e
  exact cancel 5 s t (by omega) (by omega) (by omega) e
/-- Is a head signed? -/
def signedB (p l d s : Int) : Bool := decide ((1 ≤ p ∧ p < 997) ∧ (0 ≤ l ∧ l ≤ 16) ∧ (0 ≤ d ∧ d < 991) ∧ (1 ≤ s ∧ s < 997) ∧ s * 5 % 997 = p * msgZ l d % 997)
theorem signedB_iff (p l d s : Int) : signedB p l d s = true ↔ ((1 ≤ p ∧ p < 997) ∧ (0 ≤ l ∧ l ≤ 16) ∧ (0 ≤ d ∧ d < 991) ∧ (1 ≤ s ∧ s < 997) ∧ s * 5 % 997 = p * msgZ l d % 997) := by simp [signedB]
theorem signedB_no {p l d s : Int} (h : ¬ ((1 ≤ p ∧ p < 997) ∧ (0 ≤ l ∧ l ≤ 16) ∧ (0 ≤ d ∧ d < 991) ∧ (1 ≤ s ∧ s < 997) ∧ s * 5 % 997 = p * msgZ l d % 997)) : signedB p l d s = false := by
  rw [Bool.eq_false_iff]; exact fun e => h ((signedB_iff _ _ _ _).1 e)
theorem emod_times (a b n : Int) : a % n * b % n = a * b % n := by rw [Int.mul_emod, Int.emod_emod_of_dvd a (Int.dvd_refl n), ← Int.mul_emod]
theorem signed_made (s l d : Int) (h : 1 ≤ s ∧ s < 997) (hl : 0 ≤ l ∧ l ≤ 16) (hd : 0 ≤ d ∧ d < 991) : signedB (publicOr s) l d (signZ s (msgZ l d)) = true := by
  rw [signedB_iff]
  refine ⟨publicOr_bd h, hl, hd, signZ_bd s l d h, ?_⟩
  rw [publicOr_y h]
  unfold signZ
  rw [emod_times, emod_times, Int.mul_assoc, Int.mul_assoc, Int.mul_comm 5]
theorem signed_key {p q l d s : Int} (h : signedB p l d s = true) (hne : q ≠ p) : signedB q l d s = false := by
  refine signedB_no fun k => hne ?_
  obtain ⟨hp, _, _, _, e⟩ := (signedB_iff _ _ _ _).1 h
  obtain ⟨hq, _, _, _, e'⟩ := k
  have hm := msgZ_bd l d
  rw [e, Int.mul_comm p, Int.mul_comm q] at e'
  exact (cancel _ p q (by omega) (by omega) (by omega) e').symm
theorem msgZ_d {l d d' : Int} (h : 0 ≤ d ∧ d < 991) (h' : 0 ≤ d' ∧ d' < 991) (e : msgZ l d' = msgZ l d) : d' = d := by
  unfold msgZ at e
  exact pairZ_right l d d' h h' (by omega)
theorem msgZ_l {l l' d : Int} (h : 0 ≤ l ∧ l ≤ 16) (h' : 0 ≤ l' ∧ l' ≤ 16) (e : msgZ l' d = msgZ l d) : l' = l := by
  unfold msgZ at e
  exact pairZ_left l l' d (by omega) (by omega) (by omega)
theorem signed_msg {p l d l' d' s : Int} (h : signedB p l d s = true) (hne : msgZ l' d' ≠ msgZ l d) : signedB p l' d' s = false := by
  refine signedB_no fun k => hne ?_
  obtain ⟨hp, _, _, _, e⟩ := (signedB_iff _ _ _ _).1 h
  obtain ⟨_, _, _, _, e'⟩ := k
  have hm := msgZ_bd l d
  have hm' := msgZ_bd l' d'
  rw [e] at e'
  exact (cancel p _ _ hp (by omega) (by omega) e').symm
theorem signed_digest {p l d d' s : Int} (h : signedB p l d s = true) (h' : 0 ≤ d' ∧ d' < 991) (hne : d' ≠ d) : signedB p l d' s = false :=
  signed_msg h fun e => hne (msgZ_d ((signedB_iff _ _ _ _).1 h).2.2.1 h' e)
theorem signed_length {p l d l' s : Int} (h : signedB p l d s = true) (h' : 0 ≤ l' ∧ l' ≤ 16) (hne : l' ≠ l) : signedB p l' d s = false :=
  signed_msg h fun e => hne (msgZ_l ((signedB_iff _ _ _ _).1 h).2.1 h' e)
theorem signed_sign {p l d s s' : Int} (h : signedB p l d s = true) (hne : s' ≠ s) : signedB p l d s' = false := by
  refine signedB_no fun k => hne ?_
  obtain ⟨_, _, _, hs, e⟩ := (signedB_iff _ _ _ _).1 h
  obtain ⟨_, _, _, hs', e'⟩ := k
  rw [← e, Int.mul_comm s, Int.mul_comm s'] at e'
  exact cancel 5 s' s (by omega) (by omega) (by omega) e'
theorem sign_change {s l d d' : Int} (h : 1 ≤ s ∧ s < 997) (hd : 0 ≤ d ∧ d < 991) (hd' : 0 ≤ d' ∧ d' < 991) (hne : d' ≠ d) : signZ s (msgZ l d') ≠ signZ s (msgZ l d) := fun e => by
  have hm := msgZ_bd l d
  have hm' := msgZ_bd l d'
  exact hne (msgZ_d hd hd' (cancel s _ _ h (by omega) (by omega) e))
/-- Another key. -/
def nextZ (k by_ : Int) : Int := 1 + (k + by_ % 995) % 996
theorem nextZ_bd (k by_ : Int) : 1 ≤ nextZ k by_ ∧ nextZ k by_ < 997 := by unfold nextZ; omega
theorem nextZ_ne (k : Int) (m : Nat) : nextZ k m ≠ k := by unfold nextZ; omega
/-- Another length. -/
def longZ (l by_ : Int) : Int := (l + 1 + by_ % 16) % 17
theorem longZ_bd (l by_ : Int) : 0 ≤ longZ l by_ ∧ longZ l by_ ≤ 16 := by unfold longZ; omega
theorem longZ_ne (l : Int) (m : Nat) : longZ l m ≠ l := by unfold longZ; omega

end Go.Proofs.Ytgpmodidpdjhkaa
