/- Views: when the keys of one are strictly ascending, what ViewGet answers, and what the laws say of that. No conditions. -/
import Derived.Test.YteckmbmpellkgaaPairV
namespace Go.Proofs.Yteckmbmpellkgaa
set_option linter.unusedVariables false

/-- The k-th key is greater than the one before it. -/
def fitV (xs : List VD) (k : Nat) : Bool := decide (k = 0) || decide ((vth xs (k - 1)).n < (vth xs k).n)
def ascV (xs : List VD) : Bool := (List.range xs.length).all (fitV xs)
theorem ascV_iff (xs : List VD) : ascV xs = true ↔ ∀ k, k < xs.length → fitV xs k = true := by
  unfold ascV
  rw [List.all_eq_true]
  exact ⟨fun h k hk => h k (List.mem_range.2 hk), fun h k hk => h k (List.mem_range.1 hk)⟩
theorem ascV_no {xs : List VD} {k : Nat} (hk : k < xs.length) (h : fitV xs k = false) : ascV xs = false := by
  rw [Bool.eq_false_iff]
  intro e
  rw [(ascV_iff xs).1 e k hk] at h
  cases h
theorem pairV_of {xs : List VD} (h : ascV xs = true) : xs.Pairwise (fun a b => a.n < b.n) := by
  have h2 := (ascV_iff xs).1 h
  have step : ∀ d i, i + d + 1 < xs.length → (vth xs i).n < (vth xs (i + d + 1)).n := by
    intro d
    induction d with
    | zero =>
      intro i hi
      have := h2 (i + 0 + 1) hi
      unfold fitV at this
      rw [Bool.or_eq_true, decide_eq_true_eq, decide_eq_true_eq] at this
      rcases this with h | h
      · omega
      · simpa using h
    | succ d ih =>
      intro i hi
      have a := ih i (by omega)
      have := h2 (i + (d + 1) + 1) hi
      unfold fitV at this
      rw [Bool.or_eq_true, decide_eq_true_eq, decide_eq_true_eq] at this
      rcases this with h | h
      · omega
      · have e : i + (d + 1) + 1 - 1 = i + d + 1 := by omega
        rw [e] at h
        omega
  rw [List.pairwise_iff_getElem]
  intro i j hi hj hij
  have := step (j - i - 1) i (by omega)
  have e : i + (j - i - 1) + 1 = j := by omega
  rw [e, vth_eq xs i hi, vth_eq xs j hj] at this
  exact this
theorem uniqV {xs : List VD} (h : ascV xs = true) {x y : VD} (hx : x ∈ xs) (hy : y ∈ xs) (e : x.n = y.n) : x = y := by
  obtain ⟨i, hi, rfl⟩ := List.mem_iff_getElem.1 hx
  obtain ⟨j, hj, rfl⟩ := List.mem_iff_getElem.1 hy
  have ha := List.pairwise_iff_getElem.1 (pairV_of h)
  rcases Nat.lt_trichotomy i j with k | k | k
  · have := ha i j hi hj k; omega
  · subst k; rfl
  · have := ha j i hj hi k; omega
def findV (xs : List VD) (key : Int) : Option VD := xs.find? (fun x => x.n == key)
def getO (xs : List VD) (key : Int) : Bool := ascV xs && (findV xs key).isSome
def getN (xs : List VD) (key : Int) : Int := if ascV xs = true then ((findV xs key).map (·.t)).getD 0 else 0
theorem get_no {xs : List VD} {key : Int} (h : ascV xs = false) : getO xs key = false ∧ getN xs key = 0 := by
  unfold getO getN; rw [h]; exact ⟨rfl, rfl⟩
theorem findV_hit {xs : List VD} {key : Int} {k : Nat} (hk : k < xs.length) (h : ∀ j, j < k → (vth xs j).n ≠ key) (e : (vth xs k).n = key) : findV xs key = some (vth xs k) := by
  have h0 : (xs.take k).find? (fun y => y.n == key) = none := List.find?_eq_none.2 fun x hx => by
    obtain ⟨j, hj, rfl⟩ := mem_vth hx
    rw [List.length_take] at hj
    have : vth (xs.take k) j = vth xs j := by
      unfold vth; rw [List.getD_eq_getElem?_getD, List.getD_eq_getElem?_getD, List.getElem?_take_of_lt (by omega)]
    rw [this]
    simpa using h j (by omega)
  unfold findV
  rw [← List.take_append_drop k xs, List.find?_append, h0, drop_vth xs k hk, List.find?_cons, e]
  simp
  rw [← drop_vth xs k hk, List.take_append_drop]
theorem findV_none {xs : List VD} {key : Int} (h : ∀ j, j < xs.length → (vth xs j).n ≠ key) : findV xs key = none := List.find?_eq_none.2 fun x hx => by
  obtain ⟨j, hj, rfl⟩ := mem_vth hx
  simpa using h j hj
theorem get_hit {xs : List VD} {key : Int} {k : Nat} (h0 : ascV xs = true) (hk : k < xs.length) (h : ∀ j, j < k → (vth xs j).n ≠ key) (e : (vth xs k).n = key) : getO xs key = true ∧ getN xs key = (vth xs k).t := by
  unfold getO getN; rw [h0, findV_hit hk h e]; exact ⟨rfl, rfl⟩
theorem get_none {xs : List VD} {key : Int} (h0 : ascV xs = true) (h : ∀ j, j < xs.length → (vth xs j).n ≠ key) : getO xs key = false ∧ getN xs key = 0 := by
  unfold getO getN; rw [h0, findV_none h]; exact ⟨rfl, rfl⟩

/-! ### the laws -/
def isK (key : Int) (x : VD) : Bool := x.n == key
theorem get_some {xs : List VD} {key : Int} (h : getO xs key = true) : ascV xs = true ∧ ∃ x ∈ xs, x.n = key ∧ getN xs key = x.t := by
  unfold getO at h
  rw [Bool.and_eq_true] at h
  refine ⟨h.1, ?_⟩
  obtain ⟨x, hx⟩ := Option.isSome_iff_exists.1 h.2
  refine ⟨x, List.mem_of_find?_eq_some hx, by simpa using List.find?_some hx, ?_⟩
  unfold getN; rw [h.1, hx]; rfl
theorem law_get_value {xs : List VD} {key : Int} (h : getO xs key = true) {x : VD} (hx : x ∈ xs) (e : x.n = key) : x.t = getN xs key := by
  obtain ⟨h0, y, hy, hn, hv⟩ := get_some h
  rw [hv, uniqV h0 hx hy (e.trans hn.symm)]
theorem law_get_one {xs : List VD} {key : Int} (h : getO xs key = true) : xs.countP (isK key) = 1 := by
  obtain ⟨h0, x, hx, hn, hv⟩ := get_some h
  have hp := pairV_of h0
  clear h h0 hv
  induction xs with
  | nil => cases hx
  | cons y ys ih =>
    rw [List.countP_cons]
    have hp2 := List.pairwise_cons.1 hp
    rcases List.mem_cons.1 hx with rfl | hx
    · have : ys.countP (isK key) = 0 := by
        rw [List.countP_eq_zero]
        intro z hz hk
        have := hp2.1 z hz
        have : z.n = key := by simpa [isK] using hk
        omega
      rw [this]
      simp [isK, hn]
    · have := hp2.1 x hx
      have hk : isK key y = false := by unfold isK; rw [beq_eq_false_iff_ne]; omega
      rw [hk, ih hx hp2.2]; rfl
theorem vcount_step (f : VD → Bool) (xs : List VD) (k : Nat) (h : k < xs.length) : (xs.take (k + 1)).countP f = (xs.take k).countP f + (if f (vth xs k) = true then 1 else 0) := by
  rw [take_vth xs k h, List.countP_append, List.countP_cons, List.countP_nil, Nat.zero_add]
def lessV (xs : List VD) (key : Int) : List VD := xs.filter (fun x => !isK key x)
theorem law_less {xs : List VD} {key : Int} (h : getO xs key = true) : getO (lessV xs key) key = false ∧ (lessV xs key).length + 1 = xs.length := by
  constructor
  · cases e : getO (lessV xs key) key with
    | false => rfl
    | true =>
      obtain ⟨_, x, hx, hn, _⟩ := get_some e
      have := (List.mem_filter.1 hx).2
      unfold isK at this
      rw [hn] at this
      simp at this
  · have h1 := law_get_one h
    have : ∀ ys : List VD, (ys.filter (fun x => !isK key x)).length + ys.countP (isK key) = ys.length := by
      intro ys
      induction ys with
      | nil => rfl
      | cons y ys ih =>
        rw [List.filter_cons, List.countP_cons, List.length_cons]
        cases isK key y with
        | true => simp; omega
        | false => simp; omega
    have := this xs
    unfold lessV
    omega

end Go.Proofs.Yteckmbmpellkgaa
