/- Contract of the program's ViewGet: its keys are looked through, the key is searched by halves. Condition: the pairs lie in memory. -/
import Derived.Test.YteckmbmpellkgaaSView
import Derived.Deep.LoopGhost
namespace Go.Proofs.Yteckmbmpellkgaa
open Go.RowKit
set_option linter.unusedVariables false

def cmpI (a b : Int) : Int := if a < b then -1 else if b < a then 1 else 0
theorem cmpI_neg (a b : Int) : cmpI a b < 0 ↔ a < b := by unfold cmpI; split <;> (try split) <;> omega
theorem cmpI_zero (a b : Int) : cmpI a b = 0 ↔ a = b := by unfold cmpI; split <;> (try split) <;> omega

set_option maxHeartbeats 1000000 in
theorem isnan_any (a : Int) (w : World) : Calls Try.prog 21 #[.int .i64 a] w fun e w' => e = .returned (.bool false) ∧ w' = w := by
  go_enter Try.func21, Try.ntmps21
  go_wp2
  go_ret
  exact ⟨by simp, rfl⟩
set_option maxHeartbeats 1000000 in
theorem compare_any (a b : Int) (w : World) : Calls Try.prog 20 #[.int .i64 a, .int .i64 b] w fun e w' => e = .returned (.int .i64 (cmpI a b)) ∧ w' = w := by
  have C1 := fun w => isnan_any a w
  have C2 := fun w => isnan_any b w
  obtain ⟨r, hr, hR⟩ : ∃ r, cmpI a b = r ∧ ((a < b ∧ r = -1) ∨ (¬ a < b ∧ b < a ∧ r = 1) ∨ (¬ a < b ∧ ¬ b < a ∧ r = 0)) := by
    refine ⟨_, rfl, ?_⟩
    unfold cmpI
    by_cases h1 : a < b
    · exact .inl ⟨h1, if_pos h1⟩
    · by_cases h2 : b < a
      · exact .inr (.inl ⟨h1, h2, by rw [if_neg h1, if_pos h2]⟩)
      · exact .inr (.inr ⟨h1, h2, by rw [if_neg h1, if_neg h2]⟩)
  rw [hr]
  clear hr
  rcases hR with ⟨h1, rfl⟩ | ⟨h1, h2, rfl⟩ | ⟨h1, h2, rfl⟩
  · go_enter Try.func20, Try.ntmps20
    go_wp2_with fail
    refine (C1 _).mono ?_
    rintro e w1 ⟨rfl, rfl⟩
    go_wp2_with fail
    refine (C2 _).mono ?_
    rintro e w1 ⟨rfl, rfl⟩
    go_wp2
    go_ret
    exact ⟨rfl, rfl⟩
  · go_enter Try.func20, Try.ntmps20
    go_wp2_with fail
    refine (C1 _).mono ?_
    rintro e w1 ⟨rfl, rfl⟩
    go_wp2_with fail
    refine (C2 _).mono ?_
    rintro e w1 ⟨rfl, rfl⟩
    go_wp2
    go_ret
    exact ⟨rfl, rfl⟩
  · go_enter Try.func20, Try.ntmps20
    go_wp2_with fail
    refine (C1 _).mono ?_
    rintro e w1 ⟨rfl, rfl⟩
    go_wp2_with fail
    refine (C2 _).mono ?_
    rintro e w1 ⟨rfl, rfl⟩
    go_wp2
    go_ret
    exact ⟨rfl, rfl⟩

set_option maxHeartbeats 3000000 in
set_option maxRecDepth 100000 in
theorem byKey_any (k v key : Int) (w : World) :
    Calls Try.prog 19 #[.agg #[.int .i64 k, .int .i64 v], .int .i64 key] w fun e w' => e = .returned (.int .i64 (cmpI k key)) ∧ Below w.heap.size w w' := by
  go_enter Try.func19, Try.ntmps19
  go_wp2_with fail
  refine (compare_any k key _).mono ?_
  rintro e w1 ⟨rfl, rfl⟩
  go_wp2
  go_ret
  exact ⟨rfl, (Below.refl _ w).alloc (Nat.le_refl _) _⟩

/-- The keys before a place are less than the key. -/
def leftV (xs : List VD) (key : Int) (p : Nat) : Prop := ∀ j, j < p → j < xs.length → (vth xs j).n < key
/-- The keys from a place on are not less than the key. -/
def rightV (xs : List VD) (key : Int) (p : Nat) : Prop := ∀ j, p ≤ j → j < xs.length → key ≤ (vth xs j).n
theorem asc_le {xs : List VD} (h : ascV xs = true) {i j : Nat} (hij : i < j) (hj : j < xs.length) : (vth xs i).n < (vth xs j).n := by
  have := List.pairwise_iff_getElem.1 (pairV_of h) i j (by omega) hj hij
  rwa [← vth_eq xs i (by omega), ← vth_eq xs j hj] at this
theorem left_more {xs : List VD} {key : Int} {m : Nat} (h : ascV xs = true) (hm : m < xs.length) (hk : (vth xs m).n < key) : leftV xs key (m + 1) := fun j hj hl => by
  rcases Nat.lt_or_ge j m with k | k
  · exact Int.lt_trans (asc_le h k hm) hk
  · have : j = m := by omega
    subst this; exact hk
theorem right_more {xs : List VD} {key : Int} {m : Nat} (h : ascV xs = true) (hk : ¬ (vth xs m).n < key) : rightV xs key m := fun j hj hl => by
  rcases Nat.lt_or_ge m j with k | k
  · have := asc_le h k hl
    omega
  · have : j = m := by omega
    subst this; omega
theorem search_hit {xs : List VD} {key : Int} {p : Nat} (h : ascV xs = true) (hp : p < xs.length) (h1 : leftV xs key p) (e : (vth xs p).n = key) : getO xs key = true ∧ getN xs key = (vth xs p).t :=
  get_hit h hp (fun j hj => by have := h1 j hj (by omega); omega) e
theorem search_miss {xs : List VD} {key : Int} {p : Nat} (h : ascV xs = true) (h1 : leftV xs key p) (h2 : rightV xs key p) (e : p < xs.length → (vth xs p).n ≠ key) : getO xs key = false ∧ getN xs key = 0 :=
  get_none h fun j hj => by
    rcases Nat.lt_or_ge j p with k | k
    · have := h1 j k hj; omega
    · have hpl : p < xs.length := by omega
      have a := h2 p (Nat.le_refl _) hpl
      have b := e hpl
      rcases Nat.lt_or_ge p j with c | c
      · have := asc_le h c hj; omega
      · have : j = p := by omega
        subst this; exact b

/-- What a search answers: the place, and whether the key is there. -/
def Found (xs : List VD) (key : Int) (w : World) (e : Ending) (w' : World) : Prop :=
  ∃ p : Nat, e = .returned (.tuple #[.int .i64 (p : Int), .bool (getO xs key)]) ∧ (getO xs key = true → p < xs.length ∧ (vth xs p).t = getN xs key) ∧ Below w.heap.size w w'

set_option maxHeartbeats 4000000 in
set_option maxRecDepth 100000 in
theorem search_any (A : Option Addr) (cap : Nat) (xs : List VD) (key : Int) (w : World) (hA : PvAt w w.heap.size A cap xs) (h0 : ascV xs = true) {n : Nat} (hn : xs.length = n) :
    Calls Try.prog 18 #[.slice A n cap, .int .i64 key, .func (.func 19) #[] #[]] w (Found xs key w) := by
  have HA := Lib.hid hA
  have HASC := Lib.hid h0
  have HN := Lib.hid hn
  have hle := hA.le
  have hmx := hA.most
  unfold maxLen at hmx
  rw [hn] at hle
  clear hA hn h0
  go_enter Try.func18, Try.ntmps18
  go_wp2
  go_loopg [9, 10] n (fun g s9 s10 wr => ∃ lo hi : Nat, s9 = .int .i64 lo ∧ s10 = .int .i64 hi ∧ lo ≤ hi ∧ hi ≤ n ∧ hi - lo ≤ g ∧ Hid (Below w.heap.size w wr) ∧ Hid (leftV xs key lo) ∧ Hid (rightV xs key hi))
  case atStart => exact ⟨0, n, rfl, rfl, Nat.zero_le _, Nat.le_refl _, by omega, Below.refl _ _, (fun j hj => absurd hj (Nat.not_lt_zero _)), (fun j h1 h2 => by rw [HN.out] at h2; omega)⟩
  case round =>
    obtain ⟨lo, hi, rfl, rfl, hlh, hin, hg, HB, HL, HR⟩ := hrel
    by_cases hlt : lo < hi
    · obtain ⟨m, HM⟩ : ∃ m, Hid ((lo + hi) / 2 = m) := ⟨_, rfl⟩
      have hmn : m < n := by have := HM.out; omega
      have hj := HA.out.row.belowS HB.out
      obtain ⟨b, o, rfl⟩ := hj.some_ (by rw [HN.out]; omega)
      obtain ⟨c0, c1⟩ := pv_cells hj m (by rw [HN.out]; exact hmn)
      obtain ⟨vn, HRI⟩ : ∃ x, Hid ((vth xs m).n = x) := ⟨_, rfl⟩
      obtain ⟨vt, HRT⟩ : ∃ x, Hid ((vth xs m).t = x) := ⟨_, rfl⟩
      rw [HRI.out] at c0
      rw [HRT.out] at c1
      obtain ⟨s, HSM⟩ : ∃ s : Nat, Hid (lo + hi = s) := ⟨_, rfl⟩
      obtain ⟨v, hw1, hw2⟩ : ∃ v, IntKind.i64.wrap ((lo : Int) + (hi : Int)) = v ∧ IntKind.u64.wrap v = (s : Int) := by
        refine ⟨_, rfl, ?_⟩
        rw [show (lo : Int) + (hi : Int) = (s : Int) by have := HSM.out; omega]
        rcases Nat.lt_or_ge s 9223372036854775808 with h | h
        · rw [IntWalk.i64_in _ (by omega)]; exact IntWalk.u64_in _ (by omega)
        · rw [show IntKind.i64.wrap (s : Int) = (s : Int) - 18446744073709551616 by rw [IntKind.wrap_i64]; have := HSM.out; omega, IntKind.wrap_u64]; have := HSM.out; omega
      have hw3 : (s : Int) / 2 = (m : Int) := by have := HSM.out; have := HM.out; omega
      have hw4 : IntKind.i64.wrap (m : Int) = (m : Int) := IntWalk.i64_in _ (by omega)
      have hw5 : (0 : Int) ≤ (m : Int) := by omega
      have hw6 : (m : Int) < (n : Int) := by omega
      have C := Lib.hid fun U => byKey_any vn vt key U
      have hwz : w.heap.size ≤ wr.heap.size := HB.out.size
      have HNG : Hid (cmpI vn key < 0 ↔ vn < key) := cmpI_neg vn key
      have HLM : Hid (vn < key → leftV xs key (m + 1)) := fun h => left_more HASC.out (by rw [HN.out]; exact hmn) (by rw [HRI.out]; exact h)
      have HRM : Hid (¬ vn < key → rightV xs key m) := fun h => right_more HASC.out (by rw [HRI.out]; exact h)
      clear hj
      by_cases hk : vn < key
      · have hneg : cmpI vn key < 0 := HNG.out.2 hk
        have HL2 := Lib.hid (HLM.out hk)
        clear hk
        go_wp2_with fail
        refine (C.out _).mono ?_
        rintro e w2 ⟨rfl, hb2⟩
        have HB2 : Hid (Below w.heap.size w w2) := HB.out.trans (hb2.mono hwz)
        clear hb2
        go_wp2
        go_roundg (hi - (m + 1))
        case measure => have := HM.out; omega
        case rel => exact ⟨m + 1, hi, by go_num, rfl, by have := HM.out; omega, hin, Nat.le_refl _, HB2, HL2, HR⟩
      · have hneg : ¬ cmpI vn key < 0 := fun h => hk (HNG.out.1 h)
        have HR2 := Lib.hid (HRM.out hk)
        clear hk
        go_wp2_with fail
        refine (C.out _).mono ?_
        rintro e w2 ⟨rfl, hb2⟩
        have HB2 : Hid (Below w.heap.size w w2) := HB.out.trans (hb2.mono hwz)
        clear hb2
        go_wp2
        go_roundg (m - lo)
        case measure => have := HM.out; omega
        case rel => exact ⟨lo, m, rfl, rfl, by have := HM.out; omega, by have := HM.out; omega, Nat.le_refl _, HB2, HL, HR2⟩
    · obtain rfl : hi = lo := by omega
      by_cases hn : hi < n
      · have hj := HA.out.row.belowS HB.out
        obtain ⟨b, o, rfl⟩ := hj.some_ (by rw [HN.out]; omega)
        obtain ⟨c0, c1⟩ := pv_cells hj hi (by rw [HN.out]; exact hn)
        obtain ⟨vn, HRI⟩ : ∃ x, Hid ((vth xs hi).n = x) := ⟨_, rfl⟩
        obtain ⟨vt, HRT⟩ : ∃ x, Hid ((vth xs hi).t = x) := ⟨_, rfl⟩
        rw [HRI.out] at c0
        rw [HRT.out] at c1
        have C := Lib.hid fun U => byKey_any vn vt key U
        have hwz : w.heap.size ≤ wr.heap.size := HB.out.size
        have HF : Hid ((getO xs key = true → hi < xs.length ∧ (vth xs hi).t = getN xs key) ∧ getO xs key = (cmpI vn key == 0)) := by
          by_cases hk : vn = key
          · have h := search_hit HASC.out (by rw [HN.out]; exact hn) HL.out (by rw [HRI.out]; exact hk)
            exact ⟨fun _ => ⟨by rw [HN.out]; exact hn, h.2.symm⟩, by rw [h.1, (cmpI_zero vn key).2 hk]; rfl⟩
          · have h := search_miss HASC.out HL.out HR.out (fun _ => by rw [HRI.out]; exact hk)
            have hz : (cmpI vn key == 0) = false := beq_eq_false_iff_ne.2 fun h => hk ((cmpI_zero _ _).1 h)
            exact ⟨fun k => (by rw [h.1] at k; cases k), by rw [h.1, hz]⟩
        obtain ⟨r, HR0⟩ : ∃ r, Hid (cmpI vn key = r) := ⟨_, rfl⟩
        rw [HR0.out] at C HF
        have hin0 : (hi : Int) < (n : Int) := by omega
        clear hj
        go_wp2_with fail
        refine (C.out _).mono ?_
        rintro e w2 ⟨rfl, hb2⟩
        have HB2 : Hid (Below w.heap.size w w2) := HB.out.trans (hb2.mono hwz)
        clear hb2
        go_wp2
        go_ret2
        exact ⟨hi, by rw [HF.out.2]; rfl, HF.out.1, HB2.out⟩
      · have HF := Lib.hid (search_miss HASC.out HL.out HR.out (fun h => absurd h (by rw [HN.out]; exact hn)))
        have hin0 : ¬ (hi : Int) < (n : Int) := by omega
        go_wp2_with fail
        go_ret2
        exact ⟨hi, by rw [HF.out.1]; rfl, fun k => (by rw [HF.out.1] at k; cases k), HB.out⟩

set_option maxHeartbeats 3000000 in
set_option maxRecDepth 100000 in
theorem place_any (A : Option Addr) (cap : Nat) (xs : List VD) (key : Int) (w : World) (hA : PvAt w w.heap.size A cap xs) (h0 : ascV xs = true) {n : Nat} (hn : xs.length = n) :
    Calls Try.prog 15 #[.slice A n cap, .int .i64 key] w (Found xs key w) := by
  have C := Lib.hid (search_any A cap xs key w hA h0 hn)
  clear hA h0 hn
  go_enter Try.func15, Try.ntmps15
  go_wp2_with fail
  refine C.out.mono ?_
  rintro e w2 ⟨p, rfl, HF, hb⟩
  have HB := Lib.hid hb
  have HF := Lib.hid HF
  clear hb
  go_wp2
  go_ret2
  exact ⟨p, rfl, HF.out, HB.out⟩

set_option maxHeartbeats 4000000 in
set_option maxRecDepth 100000 in
theorem asc_any (A : Option Addr) (cap : Nat) (xs : List VD) (w : World) (hA : PvAt w w.heap.size A cap xs) {n : Nat} (hn : xs.length = n) :
    Calls Try.prog 14 #[.slice A n cap] w fun e w' => e = .returned (.bool (ascV xs)) ∧ Below w.heap.size w w' := by
  have HA := Lib.hid hA
  have hle := hA.le
  have hmx := hA.most
  unfold maxLen at hmx
  clear hA
  have HN := Lib.hid hn
  rw [hn] at hle
  clear hn
  go_enter Try.func14, Try.ntmps14
  go_wp2
  go_loopw [3] (fun i w' => ∃ k : Nat, (k ≤ n ∨ k = 1) ∧ i = .int .i64 (k : Int) ∧ 1 ≤ k ∧ Hid (∃ q, w' = w.drewN q) ∧ Hid (∀ j, j < k → j < n → fitV xs j = true)) (fun i _ => n + 1 - (intOf i).toNat)
  case atStart => exact ⟨1, .inr rfl, rfl, Nat.le_refl _, ⟨0, rfl⟩, fun j hj _ => (show fitV xs j = true by obtain rfl : j = 0 := (by omega); rfl)⟩
  case round =>
    obtain ⟨k, hk, rfl, hk1, HQ, HC⟩ := hrel
    have HAr : Hid (PvAt wr wr.heap.size A cap xs) := by obtain ⟨q, e⟩ := HQ.out; subst e; exact ⟨HA.out.row.drewN q, HA.out.le, HA.out.most, HA.out.nil0⟩
    have HQN : Hid (∀ m, ∃ q, wr.drewN m = w.drewN q) := fun m => by obtain ⟨q, e⟩ := HQ.out; subst e; exact ⟨q + m, World.drewN_drewN _ _ _⟩
    have HBR : Hid (Below w.heap.size w wr) := by obtain ⟨q, e⟩ := HQ.out; subst e; exact below_drewN (Below.refl _ _) q
    by_cases hlt : k < n
    · have hkz : k < xs.length := by rw [HN.out]; exact hlt
      obtain ⟨b, o, rfl⟩ := HAr.out.row.some_ (by omega)
      obtain ⟨c0, c1⟩ := pv_cells HAr.out.row k hkz
      obtain ⟨vn, HRI⟩ : ∃ x, Hid ((vth xs k).n = x) := ⟨_, rfl⟩
      obtain ⟨vp, HRP⟩ : ∃ x, Hid ((vth xs (k - 1)).n = x) := ⟨_, rfl⟩
      have HFI : Hid (fitV xs k = decide (vp < vn)) := by show _ = _; unfold fitV; rw [HRI.out, HRP.out, decide_eq_false (by omega)]; rfl
      have HNO : Hid (fitV xs k = false → ascV xs = false) := fun e => ascV_no hkz e
      have HS : Hid (fitV xs k = true → ∀ j, j < k + 1 → j < n → fitV xs j = true) := fun e j hj hjn => by
        rcases Nat.lt_or_ge j k with h | h
        · exact HC.out j h hjn
        · have : j = k := by omega
          subst this; exact e
      obtain ⟨k1, HK1⟩ : ∃ x, Hid (k - 1 = x) := ⟨_, rfl⟩
      have c2 := (pv_cells HAr.out.row (k - 1) (by omega)).1
      rw [HRI.out] at c0
      rw [HRP.out, HK1.out] at c2
      have hk0 : (0 : Int) ≤ (k : Int) := by omega
      have hki : (k : Int) < (n : Int) := by omega
      have hk10 : (0 : Int) ≤ (k1 : Int) := by omega
      have hk1i : (k1 : Int) < (n : Int) := by have := HK1.out; omega
      have hkw : IntKind.i64.wrap ((k : Int) - 1) = (k1 : Int) := by rw [show (k : Int) - 1 = (k1 : Int) by have := HK1.out; omega]; exact IntWalk.i64_in _ (by omega)
      clear hkz
      by_cases hp : vp < vn
      · have hge : decide (vn ≤ vp) = false := decide_eq_false (by omega)
        have HS2 : Hid (∀ j, j < k + 1 → j < n → fitV xs j = true) := HS.out (by rw [HFI.out, decide_eq_true hp])
        clear hp
        go_wp2_with fail
        go_quiet (fail)
        go_wp2
        go_roundw
        case rel => exact ⟨k + 1, by omega, by go_num, by omega, HQN.out _, HS2⟩
        case measure => simp [intOf]; omega
      · have hge : decide (vn ≤ vp) = true := decide_eq_true (by omega)
        have HF : Hid (ascV xs = false) := HNO.out (by rw [HFI.out, decide_eq_false hp])
        clear hp
        go_wp2_with fail
        go_quiet (fail)
        go_wp2
        go_ret
        exact ⟨ret_bool (by rw [HF.out]), below_drewN HBR.out _⟩
    · have HASC : Hid (ascV xs = true) := (ascV_iff xs).2 fun j hj => HC.out j (by rw [HN.out] at hj; omega) (by rw [HN.out] at hj; exact hj)
      have hkl : ¬ (k : Int) < (n : Int) := by omega
      clear HC HQ HQN hk hk1
      go_wp2
      go_ret
      exact ⟨ret_bool (by rw [HASC.out]), HBR.out⟩

set_option maxHeartbeats 4000000 in
set_option maxRecDepth 100000 in
theorem get_any (A : Option Addr) (cap : Nat) (xs : List VD) (key : Int) (w : World) (hA : PvAt w w.heap.size A cap xs) {n : Nat} (hn : xs.length = n) :
    Calls Try.prog 7 #[.slice A n cap, .int .i64 key] w fun e w' => e = .returned (.tuple #[.int .i64 (getN xs key), .bool (getO xs key)]) ∧ Below w.heap.size w w' := by
  have HA := Lib.hid hA
  have hle := hA.le
  have hmx := hA.most
  unfold maxLen at hmx
  have C1 := Lib.hid (asc_any A cap xs w hA hn)
  clear hA
  have HN := Lib.hid hn
  rw [hn] at hle
  clear hn
  cases h0 : ascV xs with
  | false =>
    have HF := Lib.hid (get_no (key := key) h0)
    rw [h0] at C1
    clear h0
    go_enter Try.func7, Try.ntmps7
    go_wp2_with fail
    refine C1.out.mono ?_
    rintro e w1 ⟨rfl, hb⟩
    have HB := Lib.hid hb
    clear hb
    go_wp2
    go_ret2
    exact ⟨by rw [HF.out.1, HF.out.2]; rfl, HB.out⟩
  | true =>
    have HASC := Lib.hid h0
    rw [h0] at C1
    clear h0
    go_enter Try.func7, Try.ntmps7
    go_wp2_with fail
    refine C1.out.mono ?_
    rintro e w1 ⟨rfl, hb⟩
    have HB := Lib.hid hb
    have HA1 := Lib.hid (HA.out.belowS hb)
    have C2 := Lib.hid (place_any A cap xs key w1 HA1.out HASC.out HN.out)
    clear hb
    go_wp2_with fail
    refine C2.out.mono ?_
    rintro e w2 ⟨p, rfl, hF, hb⟩
    have HF := Lib.hid hF
    have HB2 : Hid (Below w.heap.size w w2) := HB.out.trans (hb.mono HB.out.size)
    have HA2 := Lib.hid (HA1.out.belowS hb)
    clear hb hF
    cases hO : getO xs key with
    | false =>
      have HZ : Hid (getN xs key = 0) := by
        show _ = _
        unfold getO at hO
        rw [HASC.out, Bool.true_and] at hO
        unfold getN
        rw [if_pos HASC.out]
        cases hf : findV xs key with
        | none => rfl
        | some x => rw [hf] at hO; cases hO
      have HO := Lib.hid hO
      clear hO
      go_wp2
      go_ret2
      exact ⟨by rw [HZ.out, HO.out]; rfl, HB2.out⟩
    | true =>
      obtain ⟨hp, ht⟩ := HF.out hO
      obtain ⟨b, o, rfl⟩ := HA2.out.row.some_ (by omega)
      obtain ⟨c0, c1⟩ := pv_cells HA2.out.row p hp
      rw [ht] at c1
      rw [HN.out] at hp
      have hpi : (p : Int) < (n : Int) := by omega
      have HO := Lib.hid hO
      clear hO ht
      go_wp2
      go_ret2
      exact ⟨by rw [HO.out]; rfl, HB2.out⟩

end Go.Proofs.Yteckmbmpellkgaa
