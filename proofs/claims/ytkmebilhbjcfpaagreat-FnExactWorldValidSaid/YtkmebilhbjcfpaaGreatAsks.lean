/- Requests of a window: as data, in memory, when a list of them is valid and what the functions answer. No conditions. -/
import Derived.Test.YtkmebilhbjcfpaaGreatRow
import Derived.Test.YtkmebilhbjcfpaaGreatBlk
namespace Go.Proofs.YtkmebilhbjcfpaaGreat
open Go.RowKit
set_option linter.unusedVariables false

/-- A request as data. -/
structure AD where
  p : Int
  b : Int
theorem AD.same {x y : AD} (h : x.p = y.p) (k : x.b = y.b) : x = y := by
  cases x; cases y; simp only at h k; rw [h, k]
def eqA (x y : AD) : Bool := x.p == y.p && x.b == y.b
theorem eqA_iff (x y : AD) : eqA x y = true ↔ x = y := by
  unfold eqA
  rw [Bool.and_eq_true, beq_iff_eq, beq_iff_eq]
  exact ⟨fun h => AD.same h.1 h.2, fun h => by rw [h]; exact ⟨rfl, rfl⟩⟩
theorem eqA_self (x : AD) : eqA x x = true := (eqA_iff x x).2 rfl
/-- The k-th request. -/
def ath (xs : List AD) (k : Nat) : AD := xs.getD k ⟨0, 0⟩
theorem ath_get (xs : List AD) (k : Nat) (h : k < xs.length) : xs[k]? = some (ath xs k) := by
  unfold ath; rw [List.getD_eq_getElem?_getD, List.getElem?_eq_getElem h]; rfl
theorem ath_eq (xs : List AD) (k : Nat) (h : k < xs.length) : ath xs k = xs[k] := by
  have := ath_get xs k h
  rw [List.getElem?_eq_getElem h] at this
  injection this with this
  exact this.symm
theorem ath_mem (xs : List AD) (k : Nat) (h : k < xs.length) : ath xs k ∈ xs := by
  rw [ath_eq xs k h]; exact List.getElem_mem h
theorem take_ath (xs : List AD) (k : Nat) (h : k < xs.length) : xs.take (k + 1) = xs.take k ++ [ath xs k] := by
  rw [List.take_succ_eq_append_getElem h, ath_eq xs k h]
theorem drop_ath (xs : List AD) (k : Nat) (h : k < xs.length) : xs.drop k = ath xs k :: xs.drop (k + 1) := by
  rw [List.drop_eq_getElem_cons h, ath_eq xs k h]
theorem ath_take (xs : List AD) (n k : Nat) (h : k < n) : ath (xs.take n) k = ath xs k := by
  unfold ath; rw [List.getD_eq_getElem?_getD, List.getD_eq_getElem?_getD, List.getElem?_take_of_lt h]
theorem ath_left (a b : List AD) (k : Nat) (h : k < a.length) : ath (a ++ b) k = ath a k := by
  unfold ath; rw [List.getD_eq_getElem?_getD, List.getD_eq_getElem?_getD, List.getElem?_append_left h]
theorem ath_snoc (a : List AD) (r : AD) : ath (a ++ [r]) a.length = r := by
  unfold ath; rw [List.getD_eq_getElem?_getD, List.getElem?_append_right (Nat.le_refl _), Nat.sub_self]; rfl
theorem asks_ext {a b : List AD} (hl : a.length = b.length) (h : ∀ k, k < a.length → (ath a k).p = (ath b k).p ∧ (ath a k).b = (ath b k).b) : a = b := by
  refine List.ext_getElem hl fun k h1 h2 => ?_
  have := h k h1
  rw [ath_eq a k h1, ath_eq b k h2] at this
  exact AD.same this.1 this.2

/-! ### numbers of requests -/
def isP (p : Int) (x : AD) : Bool := x.p == p
def isB (b : Int) (x : AD) : Bool := x.b == b
def isA (a : AD) (x : AD) : Bool := eqA x a
def cP (xs : List AD) (p : Int) : Nat := xs.countP (isP p)
def cB (xs : List AD) (b : Int) : Nat := xs.countP (isB b)
def cH (xs : List AD) (a : AD) : Nat := xs.countP (isA a)
theorem count_step (f : AD → Bool) (xs : List AD) (k : Nat) (h : k < xs.length) : (xs.take (k + 1)).countP f = (xs.take k).countP f + (if f (ath xs k) = true then 1 else 0) := by
  rw [take_ath xs k h, List.countP_append, List.countP_cons, List.countP_nil, Nat.zero_add]
theorem count_upto (f : AD → Bool) (xs : List AD) (k : Nat) (h : k < xs.length) (hf : f (ath xs k) = true) : (xs.take k).countP f + 1 ≤ xs.countP f := by
  have h1 := count_step f xs k h
  rw [if_pos hf] at h1
  rw [← h1]
  exact (List.take_sublist (k + 1) xs).countP_le
theorem count_snoc (f : AD → Bool) (xs : List AD) (a : AD) : (xs ++ [a]).countP f = xs.countP f + (if f a = true then 1 else 0) := by
  rw [List.countP_append, List.countP_cons, List.countP_nil, Nat.zero_add]
theorem count_le (f : AD → Bool) (xs : List AD) : xs.countP f ≤ xs.length := List.countP_le_length
theorem isP_self (a : AD) : isP a.p a = true := by unfold isP; exact beq_self_eq_true _
theorem isB_self (a : AD) : isB a.b a = true := by unfold isB; exact beq_self_eq_true _

/-! ### when requests are valid -/
def pOk (p : Int) : Bool := decide (0 ≤ p ∧ p < 6)
def aOk (a : AD) : Bool := pOk a.p && decide (0 ≤ a.b ∧ a.b < 16)
theorem aOk_iff (a : AD) : aOk a = true ↔ pOk a.p = true ∧ 0 ≤ a.b ∧ a.b < 16 := by
  unfold aOk; rw [Bool.and_eq_true, decide_eq_true_eq]
theorem pOk_iff (p : Int) : pOk p = true ↔ 0 ≤ p ∧ p < 6 := by unfold pOk; rw [decide_eq_true_eq]
/-- May a further request be made, if most for one block may be? -/
def canB (xs : List AD) (a : AD) (m : Nat) : Bool := decide (cH xs a = 0) && (decide (cP xs a.p < 3) && decide (cB xs a.b < m))
theorem canB_iff (xs : List AD) (a : AD) (m : Nat) : canB xs a m = true ↔ cH xs a = 0 ∧ cP xs a.p < 3 ∧ cB xs a.b < m := by
  unfold canB; simp only [Bool.and_eq_true, decide_eq_true_eq]
/-- Is the k-th request fit behind those before it? -/
def fitB (xs : List AD) (k : Nat) : Bool := aOk (ath xs k) && canB (xs.take k) (ath xs k) 2
def winB (xs : List AD) : Bool := decide (∀ k, k < xs.length → fitB xs k = true)
theorem winB_iff (xs : List AD) : winB xs = true ↔ ∀ k, k < xs.length → fitB xs k = true := by unfold winB; rw [decide_eq_true_eq]
theorem fitB_iff (xs : List AD) (k : Nat) : fitB xs k = true ↔ aOk (ath xs k) = true ∧ cH (xs.take k) (ath xs k) = 0 ∧ cP (xs.take k) (ath xs k).p < 3 ∧ cB (xs.take k) (ath xs k).b < 2 := by
  unfold fitB; rw [Bool.and_eq_true, canB_iff]
theorem winB_no {xs : List AD} {k : Nat} (hk : k < xs.length) (h : fitB xs k = false) : winB xs = false := by
  rw [Bool.eq_false_iff]
  intro e
  have := (winB_iff xs).1 e k hk
  rw [h] at this
  cases this
/-- The same, without an order. -/
structure OkS (xs : List AD) : Prop where
  ok : ∀ x ∈ xs, aOk x = true
  one : ∀ a, cH xs a ≤ 1
  peer : ∀ p, cP xs p ≤ 3
  block : ∀ b, cB xs b ≤ 2
theorem OkS.sub {xs ys : List AD} (h : OkS xs) (s : ys.Sublist xs) : OkS ys :=
  ⟨fun x hx => h.ok x (s.subset hx), fun a => Nat.le_trans s.countP_le (h.one a), fun p => Nat.le_trans s.countP_le (h.peer p), fun b => Nat.le_trans s.countP_le (h.block b)⟩
theorem OkS.snoc {xs : List AD} {a : AD} (h : OkS xs) (ha : aOk a = true) (h1 : cH xs a = 0) (h2 : cP xs a.p < 3) (h3 : cB xs a.b < 2) : OkS (xs ++ [a]) := by
  refine ⟨fun x hx => ?_, fun c => ?_, fun p => ?_, fun b => ?_⟩
  · rcases List.mem_append.1 hx with hx | hx
    · exact h.ok x hx
    · rw [List.mem_singleton.1 hx]; exact ha
  · unfold cH; rw [count_snoc]
    have := h.one c
    unfold cH at this h1
    by_cases e : isA c a = true
    · have : a = c := (eqA_iff _ _).1 e
      subst this; rw [if_pos e, h1]; omega
    · rw [if_neg e]; omega
  · unfold cP; rw [count_snoc]
    have := h.peer p
    unfold cP at this h2
    by_cases e : isP p a = true
    · have : a.p = p := by unfold isP at e; exact beq_iff_eq.1 e
      subst this; rw [if_pos e]; omega
    · rw [if_neg e]; omega
  · unfold cB; rw [count_snoc]
    have := h.block b
    unfold cB at this h3
    by_cases e : isB b a = true
    · have : a.b = b := by unfold isB at e; exact beq_iff_eq.1 e
      subst this; rw [if_pos e]; omega
    · rw [if_neg e]; omega
theorem okS_of_win {xs : List AD} (h : winB xs = true) : OkS xs := by
  have key : ∀ n, n ≤ xs.length → OkS (xs.take n) := by
    intro n
    induction n with
    | zero =>
      intro _
      rw [List.take_zero]
      exact ⟨fun x hx => (by cases hx), fun _ => Nat.zero_le _, fun _ => Nat.zero_le _, fun _ => Nat.zero_le _⟩
    | succ n ih =>
      intro hn
      have hf := (fitB_iff xs n).1 ((winB_iff xs).1 h n (by omega))
      rw [take_ath xs n (by omega)]
      exact (ih (by omega)).snoc hf.1 hf.2.1 hf.2.2.1 hf.2.2.2
  have := key xs.length (Nat.le_refl _)
  rwa [List.take_length] at this
theorem win_of_okS {xs : List AD} (h : OkS xs) : winB xs = true := by
  rw [winB_iff]
  intro k hk
  rw [fitB_iff]
  refine ⟨h.ok _ (ath_mem xs k hk), ?_, ?_, ?_⟩
  · have h1 := count_upto (isA (ath xs k)) xs k hk (eqA_self _)
    have h2 := h.one (ath xs k)
    unfold cH at h2 ⊢; omega
  · have h1 := count_upto (isP (ath xs k).p) xs k hk (isP_self _)
    have h2 := h.peer (ath xs k).p
    unfold cP at h2 ⊢; omega
  · have h1 := count_upto (isB (ath xs k).b) xs k hk (isB_self _)
    have h2 := h.block (ath xs k).b
    unfold cB at h2 ⊢; omega
/-- How the model checks the k-th request. -/
def fitS (xs : List AD) (k : Nat) : Bool := aOk (ath xs k) && (decide (cH (xs.take k) (ath xs k) = 0) && (decide (cP xs (ath xs k).p ≤ 3) && decide (cB xs (ath xs k).b ≤ 2)))
theorem fitS_iff (xs : List AD) (k : Nat) : fitS xs k = true ↔ aOk (ath xs k) = true ∧ cH (xs.take k) (ath xs k) = 0 ∧ cP xs (ath xs k).p ≤ 3 ∧ cB xs (ath xs k).b ≤ 2 := by
  unfold fitS; simp only [Bool.and_eq_true, decide_eq_true_eq]
theorem win_of_fitS {xs : List AD} (h : ∀ k, k < xs.length → fitS xs k = true) : winB xs = true := by
  rw [winB_iff]
  intro k hk
  have hf := (fitS_iff xs k).1 (h k hk)
  rw [fitB_iff]
  refine ⟨hf.1, hf.2.1, ?_, ?_⟩
  · have h1 := count_upto (isP (ath xs k).p) xs k hk (isP_self _)
    have h2 := hf.2.2.1
    unfold cP at h2 ⊢; omega
  · have h1 := count_upto (isB (ath xs k).b) xs k hk (isB_self _)
    have h2 := hf.2.2.2
    unfold cB at h2 ⊢; omega
theorem win_no_fitS {xs : List AD} {k : Nat} (hk : k < xs.length) (h : fitS xs k = false) : winB xs = false := by
  rw [Bool.eq_false_iff]
  intro e
  have hs := okS_of_win e
  have : fitS xs k = true := by
    rw [fitS_iff]
    have hb := (fitB_iff xs k).1 ((winB_iff xs).1 e k hk)
    exact ⟨hb.1, hb.2.1, hs.peer _, hs.block _⟩
  rw [h] at this
  cases this
theorem winB_short {xs : List AD} (h : winB xs = true) : xs.length ≤ 18 := by
  have hs := okS_of_win h
  have key : ∀ ys : List AD, (∀ x ∈ ys, aOk x = true) → ys.length ≤ cP ys 0 + cP ys 1 + cP ys 2 + cP ys 3 + cP ys 4 + cP ys 5 := by
    intro ys
    induction ys with
    | nil => intro _; exact Nat.zero_le _
    | cons y ys ih =>
      intro hy
      have h1 := ih fun x hx => hy x (List.mem_cons_of_mem _ hx)
      have h2 := (pOk_iff y.p).1 ((aOk_iff y).1 (hy y (List.mem_cons_self))).1
      have hc : ∀ q, cP (y :: ys) q = cP ys q + (if y.p = q then 1 else 0) := fun q => by
        unfold cP; rw [List.countP_cons]; unfold isP; simp only [beq_iff_eq]
      rw [List.length_cons, hc 0, hc 1, hc 2, hc 3, hc 4, hc 5]
      have : y.p = 0 ∨ y.p = 1 ∨ y.p = 2 ∨ y.p = 3 ∨ y.p = 4 ∨ y.p = 5 := by omega
      rcases this with e | e | e | e | e | e <;> rw [e] <;> simp <;> omega
  have := key xs hs.ok
  have h0 := hs.peer 0
  have h1 := hs.peer 1
  have h2 := hs.peer 2
  have h3 := hs.peer 3
  have h4 := hs.peer 4
  have h5 := hs.peer 5
  omega

/-! ### what the functions answer -/
def mostN (e : Bool) : Nat := if e then 2 else 1
def askR (xs : List AD) (a : AD) (e : Bool) : List AD := if winB xs && aOk a then (if canB xs a (mostN e) then xs ++ [a] else xs) else []
def askO (xs : List AD) (a : AD) (e : Bool) : Bool := winB xs && aOk a && canB xs a (mostN e)
def gotR (xs : List AD) (a : AD) : List AD := if winB xs && aOk a then (if decide (0 < cH xs a) then xs.filter (fun x => !isB a.b x) else xs) else []
def gotN (xs : List AD) (a : AD) : Int := if winB xs && aOk a && decide (0 < cH xs a) then (cB xs a.b : Int) - 1 else -1
def dropR (xs : List AD) (p : Int) : List AD := if winB xs && pOk p then xs.filter (fun x => !isP p x) else []
def dropN (xs : List AD) (p : Int) : Int := if winB xs && pOk p then (cP xs p : Int) else -1
def roomN (xs : List AD) (p : Int) : Int := if winB xs && pOk p then 3 - (cP xs p : Int) else -1
theorem mostN_le (e : Bool) : mostN e ≤ 2 := by cases e <;> decide
theorem askO_iff (xs : List AD) (a : AD) (e : Bool) : askO xs a e = true ↔ winB xs = true ∧ aOk a = true ∧ canB xs a (mostN e) = true := by
  unfold askO; rw [Bool.and_eq_true, Bool.and_eq_true, and_assoc]
theorem askR_yes {xs : List AD} {a : AD} {e : Bool} (h : askO xs a e = true) : askR xs a e = xs ++ [a] := by
  obtain ⟨h1, h2, h3⟩ := (askO_iff xs a e).1 h
  unfold askR; rw [h1, h2, h3]; rfl
theorem askR_can {xs : List AD} {a : AD} {e : Bool} (h1 : winB xs = true) (h2 : aOk a = true) (h3 : canB xs a (mostN e) = false) : askR xs a e = xs := by
  unfold askR; rw [h1, h2, h3]; rfl
theorem askR_no {xs : List AD} {a : AD} {e : Bool} (h : (winB xs && aOk a) = false) : askR xs a e = [] := by
  unfold askR; rw [h]; rfl
theorem win_ask {xs : List AD} {a : AD} {e : Bool} (h : askO xs a e = true) : winB (xs ++ [a]) = true := by
  obtain ⟨h1, h2, h3⟩ := (askO_iff xs a e).1 h
  obtain ⟨k1, k2, k3⟩ := (canB_iff _ _ _).1 h3
  have := mostN_le e
  exact win_of_okS ((okS_of_win h1).snoc h2 k1 k2 (by omega))
theorem ask_twice {xs : List AD} {a : AD} {e : Bool} (h : askO xs a e = true) (e' : Bool) : askO (xs ++ [a]) a e' = false ∧ askR (xs ++ [a]) a e' = xs ++ [a] := by
  have hw := win_ask h
  have ha := ((askO_iff xs a e).1 h).2.1
  have hc : canB (xs ++ [a]) a (mostN e') = false := by
    unfold canB cH
    rw [count_snoc, if_pos (show isA a a = true from eqA_self a), decide_eq_false (by omega)]; rfl
  exact ⟨by unfold askO; rw [hc, Bool.and_false], askR_can hw ha hc⟩
theorem roomN_ok {xs : List AD} {p : Int} (h : winB xs = true) (hp : pOk p = true) : roomN xs p = 3 - (cP xs p : Int) := by
  unfold roomN; rw [h, hp]; rfl
theorem ask_room {xs : List AD} {a : AD} {e : Bool} (h : askO xs a e = true) : roomN (xs ++ [a]) a.p = roomN xs a.p - 1 ∧ 0 < roomN xs a.p := by
  obtain ⟨h1, h2, h3⟩ := (askO_iff xs a e).1 h
  obtain ⟨k1, k2, k3⟩ := (canB_iff _ _ _).1 h3
  have hp := ((aOk_iff a).1 h2).1
  rw [roomN_ok h1 hp, roomN_ok (win_ask h) hp]
  have : cP (xs ++ [a]) a.p = cP xs a.p + 1 := by unfold cP; rw [count_snoc, if_pos (isP_self a)]
  rw [this]
  omega
theorem ask_single {xs : List AD} {a : AD} (h : askO xs a false = true) : cB (xs ++ [a]) a.b = 1 := by
  obtain ⟨h1, h2, h3⟩ := (askO_iff xs a false).1 h
  obtain ⟨k1, k2, k3⟩ := (canB_iff _ _ _).1 h3
  have k4 : cB xs a.b < 1 := k3
  have : cB (xs ++ [a]) a.b = cB xs a.b + 1 := by unfold cB; rw [count_snoc, if_pos (isB_self a)]
  omega
theorem ask_end {xs : List AD} {a : AD} {e : Bool} (h : askO xs a e = true) : askO xs a true = true ∧ askR xs a true = xs ++ [a] := by
  obtain ⟨h1, h2, h3⟩ := (askO_iff xs a e).1 h
  obtain ⟨k1, k2, k3⟩ := (canB_iff _ _ _).1 h3
  have hm := mostN_le e
  have : askO xs a true = true := (askO_iff _ _ _).2 ⟨h1, h2, (canB_iff _ _ _).2 ⟨k1, k2, by show cB xs a.b < 2; omega⟩⟩
  exact ⟨this, askR_yes this⟩
/-- A request that may not be made has a reason. -/
theorem ask_refused {xs : List AD} {a : AD} {e : Bool} (h1 : winB xs = true) (h2 : aOk a = true) : askO xs a e = !(decide (0 < cH xs a) || (decide (roomN xs a.p = 0) || decide (mostN e ≤ cB xs a.b))) := by
  have hp := ((aOk_iff a).1 h2).1
  have h3 := (okS_of_win h1).peer a.p
  rw [roomN_ok h1 hp]
  unfold askO canB
  rw [h1, h2]
  by_cases k1 : cH xs a = 0
  · by_cases k2 : cP xs a.p < 3
    · by_cases k3 : cB xs a.b < mostN e
      · rw [decide_eq_true k1, decide_eq_true k2, decide_eq_true k3, decide_eq_false (show ¬ 0 < cH xs a by omega), decide_eq_false (show ¬ (3 : Int) - (cP xs a.p : Int) = 0 by omega), decide_eq_false (show ¬ mostN e ≤ cB xs a.b by omega)]; rfl
      · rw [decide_eq_true k1, decide_eq_true k2, decide_eq_false k3, decide_eq_true (show mostN e ≤ cB xs a.b by omega)]; simp
    · rw [decide_eq_true k1, decide_eq_false k2, decide_eq_true (show (3 : Int) - (cP xs a.p : Int) = 0 by omega)]; simp
  · rw [decide_eq_false k1, decide_eq_true (show 0 < cH xs a by omega)]; simp

/-! ### removing requests -/
theorem win_filter {xs : List AD} (h : winB xs = true) (f : AD → Bool) : winB (xs.filter f) = true := win_of_okS ((okS_of_win h).sub List.filter_sublist)
theorem count_filter_none {xs : List AD} (f g : AD → Bool) (h : ∀ x, g x = true → f x = true) : (xs.filter (fun x => !f x)).countP g = 0 := by
  rw [List.countP_eq_zero]
  intro x hx hg
  have := (List.mem_filter.1 hx).2
  rw [h x hg] at this
  cases this
theorem isB_of_isA {a x : AD} (h : isA a x = true) : isB a.b x = true := by
  have : x = a := (eqA_iff _ _).1 h
  subst this; exact isB_self x
theorem isP_of_isA {a x : AD} (h : isA a x = true) : isP a.p x = true := by
  have : x = a := (eqA_iff _ _).1 h
  subst this; exact isP_self x
theorem filter_length (xs : List AD) (f : AD → Bool) : (xs.filter (fun x => !f x)).length + xs.countP f = xs.length := by
  induction xs with
  | nil => rfl
  | cons x xs ih =>
    rw [List.filter_cons, List.countP_cons, List.length_cons]
    cases h : f x with
    | true => simp; omega
    | false => simp; omega
theorem gotN_neg_iff (xs : List AD) (a : AD) : gotN xs a = -1 ∨ (winB xs = true ∧ aOk a = true ∧ 0 < cH xs a ∧ gotN xs a = (cB xs a.b : Int) - 1 ∧ gotR xs a = xs.filter (fun x => !isB a.b x) ∧ 0 ≤ gotN xs a) := by
  by_cases h : winB xs = true ∧ aOk a = true ∧ 0 < cH xs a
  · right
    obtain ⟨h1, h2, h3⟩ := h
    have hle : cH xs a ≤ cB xs a.b := List.countP_mono_left fun x _ hx => isB_of_isA hx
    have e : gotN xs a = (cB xs a.b : Int) - 1 := by unfold gotN; rw [h1, h2, decide_eq_true h3]; rfl
    exact ⟨h1, h2, h3, e, by unfold gotR; rw [h1, h2, decide_eq_true h3]; rfl, by omega⟩
  · left
    unfold gotN
    rw [if_neg]
    intro e
    rw [Bool.and_eq_true, Bool.and_eq_true, decide_eq_true_eq] at e
    exact h ⟨e.1.1, e.1.2, e.2⟩
theorem dropN_neg_iff (xs : List AD) (p : Int) : dropN xs p = -1 ∨ (winB xs = true ∧ pOk p = true ∧ dropN xs p = (cP xs p : Int) ∧ dropR xs p = xs.filter (fun x => !isP p x)) := by
  by_cases h : winB xs = true ∧ pOk p = true
  · right
    obtain ⟨h1, h2⟩ := h
    exact ⟨h1, h2, by unfold dropN; rw [h1, h2]; rfl, by unfold dropR; rw [h1, h2]; rfl⟩
  · left
    unfold dropN
    rw [if_neg]
    intro e
    rw [Bool.and_eq_true] at e
    exact h e
theorem got_twice {xs : List AD} {a : AD} (h1 : winB xs = true) (h2 : aOk a = true) : gotN (xs.filter (fun x => !isB a.b x)) a = -1 ∧ gotR (xs.filter (fun x => !isB a.b x)) a = xs.filter (fun x => !isB a.b x) := by
  have h0 : cH (xs.filter (fun x => !isB a.b x)) a = 0 := count_filter_none _ _ fun x hx => isB_of_isA hx
  have hw := win_filter h1 (fun x => !isB a.b x)
  exact ⟨by unfold gotN; rw [h0]; simp, by unfold gotR; rw [hw, h2, h0]; simp⟩
theorem got_again {xs : List AD} {a : AD} (h1 : winB xs = true) (h2 : aOk a = true) (h3 : 0 < cH xs a) : askO (xs.filter (fun x => !isB a.b x)) a false = true := by
  have hw := win_filter h1 (fun x => !isB a.b x)
  have h0 : cH (xs.filter (fun x => !isB a.b x)) a = 0 := count_filter_none _ _ fun x hx => isB_of_isA hx
  have hb : cB (xs.filter (fun x => !isB a.b x)) a.b = 0 := count_filter_none _ _ fun x hx => hx
  have hp := (okS_of_win h1).peer a.p
  have key : ∀ ys : List AD, cP (ys.filter (fun x => !isB a.b x)) a.p + cH ys a ≤ cP ys a.p := by
    intro ys
    induction ys with
    | nil => exact Nat.le_refl _
    | cons y ys ih =>
      unfold cP cH at ih ⊢
      rw [List.filter_cons, List.countP_cons, List.countP_cons]
      by_cases e : isA a y = true
      · rw [if_pos e, if_pos (isP_of_isA e), isB_of_isA e]
        simp; omega
      · rw [if_neg e]
        cases hq : isB a.b y with
        | true => simp; omega
        | false =>
          simp only [Bool.not_false, if_true]
          rw [List.countP_cons]; omega
  have := key xs
  exact (askO_iff _ _ _).2 ⟨hw, h2, (canB_iff _ _ _).2 ⟨h0, by omega, by rw [hb]; decide⟩⟩
theorem drop_twice {xs : List AD} {p : Int} (h1 : winB xs = true) (h2 : pOk p = true) : dropN (xs.filter (fun x => !isP p x)) p = 0 ∧ dropR (xs.filter (fun x => !isP p x)) p = xs.filter (fun x => !isP p x) ∧ roomN (xs.filter (fun x => !isP p x)) p = 3 := by
  have h0 : cP (xs.filter (fun x => !isP p x)) p = 0 := count_filter_none _ _ fun x hx => hx
  have hw := win_filter h1 (fun x => !isP p x)
  refine ⟨by unfold dropN; rw [hw, h2, h0]; rfl, ?_, by rw [roomN_ok hw h2, h0]; rfl⟩
  unfold dropR
  rw [hw, h2]
  simp only [Bool.and_self, if_true]
  rw [List.filter_filter]
  refine List.filter_congr fun x _ => ?_
  cases isP p x <;> rfl
theorem win_less {xs : List AD} (h : winB xs = true) (k : Nat) : winB (xs.take k ++ xs.drop (k + 1)) = true := by
  refine win_of_okS ((okS_of_win h).sub ?_)
  have h1 : (xs.drop (k + 1)).Sublist (xs.drop k) := by
    rw [← List.drop_drop]
    exact List.drop_sublist _ _
  have h2 := List.Sublist.append (List.Sublist.refl (xs.take k)) h1
  rwa [List.take_append_drop] at h2
theorem win_more {xs : List AD} (k : Nat) (hk : k < xs.length) : winB (xs ++ [ath xs k]) = false := by
  refine winB_no (k := xs.length) (by simp) ?_
  rw [Bool.eq_false_iff]
  intro e
  have := ((fitB_iff _ _).1 e).2.1
  rw [ath_snoc, List.take_left] at this
  have h1 := count_upto (isA (ath xs k)) xs k hk (eqA_self _)
  unfold cH at this
  omega

/-! ### requests in memory -/
def AK : Kind AD := ⟨105, 2, 16, fun r => [.int .i64 r.p, .int .i64 r.b], fun _ => rfl, fun r u hu => by
  simp only [List.mem_cons, List.not_mem_nil, or_false] at hu
  rcases hu with rfl | rfl <;> rfl, by decide⟩
theorem ask_info : (Tryz.prog.info? 105).map (fun i => (i.zero, i.size, i.bytes)) = some (some (.agg #[.int .i64 0, .int .i64 0]), 2, 16) := by kernel_rfl
abbrev askV (a : AD) : Value := .agg #[.int .i64 a.p, .int .i64 a.b]
section
variable {w w' : World} {B base cap : Nat} {A : Option Addr} {xs : List AD}
/-- The two cells of a request. -/
theorem ask_cells {b o : Nat} (h : RowAt AK w B (some ⟨b, o, none⟩) xs) (k : Nat) (hk : k < xs.length) : w.cell? ⟨b, o + k * 2, none⟩ = some (.int .i64 (ath xs k).p) ∧ w.cell? ⟨b, o + k * 2 + 1, none⟩ = some (.int .i64 (ath xs k).b) := by
  have hc := (h.lt (by omega)).2 k (ath xs k) (ath_get xs k hk)
  exact ⟨hc 0 _ rfl, hc 1 _ rfl⟩
theorem ask2 {W : World} {g : Nat} {t : TypeId} {v0 v1 : Value} (h : Blk W g t #[v0, v1]) : W.cell? ⟨g, 0, none⟩ = some v0 ∧ W.cell? ⟨g, 1, none⟩ = some v1 := ⟨h.cell 0, h.cell 1⟩
end
theorem ask_app_info : ∃ i z, Tryz.prog.info? AK.e = some i ∧ i.zero = some z ∧ i.size = AK.k ∧ i.bytes = AK.by_ ∧ z.cells.size = AK.k := by
  obtain ⟨i0, hi0, hz0, hz1, hz2⟩ := info_parts ask_info
  exact ⟨i0, _, hi0, hz0, hz1, hz2, rfl⟩
/-- The requests of a list lie in memory, below block B. -/
structure AsksAt (w : World) (B : Nat) (A : Option Addr) (c : Nat) (xs : List AD) : Prop where
  row : RowAt AK w B A xs
  le : xs.length ≤ c
  most : c ≤ maxLen
  nil0 : A = none → c = 0
section
variable {w w' : World} {B : Nat} {A : Option Addr} {c : Nat} {xs : List AD}
theorem AsksAt.belowS (h : AsksAt w w.heap.size A c xs) (hb : Below w.heap.size w w') : AsksAt w' w'.heap.size A c xs := ⟨h.row.belowS hb, h.le, h.most, h.nil0⟩
theorem AsksAt.allocS (h : AsksAt w w.heap.size A c xs) (o : Obj) : AsksAt (w.alloc o) (w.alloc o).heap.size A c xs := ⟨h.row.allocS o, h.le, h.most, h.nil0⟩
theorem AsksAt.first (h : AsksAt w B A c xs) (n : Nat) : AsksAt w B A c (xs.take n) := ⟨h.row.first n, by rw [List.length_take]; have := h.le; omega, h.most, h.nil0⟩
theorem own_asks {base : Nat} (h : OwnRow AK w base A c xs) : AsksAt w w.heap.size A c xs := ⟨h.at_, h.le.1, h.le.2, h.nil_cap⟩
end

end Go.Proofs.YtkmebilhbjcfpaaGreat
