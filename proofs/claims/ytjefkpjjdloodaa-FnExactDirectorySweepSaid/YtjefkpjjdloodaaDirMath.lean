/- Directories: when one is valid, what the functions answer, and what the laws say of that. No conditions. -/
import Derived.Test.YtjefkpjjdloodaaListed
namespace Go.Proofs.Ytjefkpjjdloodaa
set_option linter.unusedVariables false

def nOk (n : Int) : Bool := decide (0 ≤ n) && decide (n ≤ 99)
def tOk (t : Int) : Bool := decide (0 ≤ t) && decide (t ≤ 999)
theorem nOk_iff (n : Int) : nOk n = true ↔ 0 ≤ n ∧ n ≤ 99 := by unfold nOk; rw [Bool.and_eq_true, decide_eq_true_eq, decide_eq_true_eq]
theorem tOk_iff (n : Int) : tOk n = true ↔ 0 ≤ n ∧ n ≤ 999 := by unfold tOk; rw [Bool.and_eq_true, decide_eq_true_eq, decide_eq_true_eq]
/-- The k-th node is in range and behind the one before it. -/
def fitL (xs : List LD) (k : Nat) : Bool := nOk (lth xs k).n && (tOk (lth xs k).t && (decide (k = 0) || decide ((lth xs (k - 1)).n < (lth xs k).n)))
def dirB (xs : List LD) : Bool := decide (xs.length ≤ 8) && (List.range xs.length).all (fitL xs)
theorem dirB_iff (xs : List LD) : dirB xs = true ↔ xs.length ≤ 8 ∧ ∀ k, k < xs.length → fitL xs k = true := by
  unfold dirB
  rw [Bool.and_eq_true, decide_eq_true_eq, List.all_eq_true]
  exact ⟨fun h => ⟨h.1, fun k hk => h.2 k (List.mem_range.2 hk)⟩, fun h => ⟨h.1, fun k hk => h.2 k (List.mem_range.1 hk)⟩⟩
theorem fitL_iff (xs : List LD) (k : Nat) : fitL xs k = true ↔ (0 ≤ (lth xs k).n ∧ (lth xs k).n ≤ 99) ∧ (0 ≤ (lth xs k).t ∧ (lth xs k).t ≤ 999) ∧ (k = 0 ∨ (lth xs (k - 1)).n < (lth xs k).n) := by
  unfold fitL
  rw [Bool.and_eq_true, Bool.and_eq_true, Bool.or_eq_true, nOk_iff, tOk_iff, decide_eq_true_eq, decide_eq_true_eq]
theorem dirB_no {xs : List LD} {k : Nat} (hk : k < xs.length) (h : fitL xs k = false) : dirB xs = false := by
  rw [Bool.eq_false_iff]
  intro e
  rw [((dirB_iff xs).1 e).2 k hk] at h
  cases h
/-- The same, said of the members. -/
structure DirP (xs : List LD) : Prop where
  len : xs.length ≤ 8
  ok : ∀ x ∈ xs, (0 ≤ x.n ∧ x.n ≤ 99) ∧ (0 ≤ x.t ∧ x.t ≤ 999)
  asc : xs.Pairwise (fun a b => a.n < b.n)
theorem dirP_of {xs : List LD} (h : dirB xs = true) : DirP xs := by
  obtain ⟨h1, h2⟩ := (dirB_iff xs).1 h
  refine ⟨h1, fun x hx => ?_, ?_⟩
  · obtain ⟨k, hk, rfl⟩ := mem_lth hx
    have := (fitL_iff xs k).1 (h2 k hk)
    exact ⟨this.1, this.2.1⟩
  · have step : ∀ d i, i + d + 1 < xs.length → (lth xs i).n < (lth xs (i + d + 1)).n := by
      intro d
      induction d with
      | zero =>
        intro i hi
        have := ((fitL_iff xs (i + 0 + 1)).1 (h2 _ hi)).2.2
        rcases this with h | h
        · omega
        · simpa using h
      | succ d ih =>
        intro i hi
        have a := ih i (by omega)
        have := ((fitL_iff xs (i + (d + 1) + 1)).1 (h2 _ hi)).2.2
        rcases this with h | h
        · omega
        · have e : i + (d + 1) + 1 - 1 = i + d + 1 := by omega
          rw [e] at h
          omega
    rw [List.pairwise_iff_getElem]
    intro i j hi hj hij
    have := step (j - i - 1) i (by omega)
    have e : i + (j - i - 1) + 1 = j := by omega
    rw [e, lth_eq xs i hi, lth_eq xs j hj] at this
    exact this
theorem dirB_of {xs : List LD} (h : DirP xs) : dirB xs = true := by
  rw [dirB_iff]
  refine ⟨h.len, fun k hk => ?_⟩
  rw [fitL_iff]
  have h1 := h.ok _ (lth_mem xs k hk)
  refine ⟨h1.1, h1.2, ?_⟩
  rcases Nat.eq_zero_or_pos k with rfl | hp
  · exact .inl rfl
  · right
    have := (List.pairwise_iff_getElem.1 h.asc) (k - 1) k (by omega) hk (by omega)
    rw [lth_eq xs (k - 1) (by omega), lth_eq xs k hk]
    exact this
theorem DirP.sub {xs ys : List LD} (h : DirP xs) (hs : ys.Sublist xs) : DirP ys :=
  ⟨Nat.le_trans hs.length_le h.len, fun x hx => h.ok x (hs.subset hx), h.asc.sublist hs⟩
theorem DirP.uniq {xs : List LD} (h : DirP xs) {x y : LD} (hx : x ∈ xs) (hy : y ∈ xs) (e : x.n = y.n) : x = y := by
  obtain ⟨i, hi, rfl⟩ := List.mem_iff_getElem.1 hx
  obtain ⟨j, hj, rfl⟩ := List.mem_iff_getElem.1 hy
  have ha := List.pairwise_iff_getElem.1 h.asc
  rcases Nat.lt_trichotomy i j with k | k | k
  · have := ha i j hi hj k; omega
  · subst k; rfl
  · have := ha j i hj hi k; omega
theorem DirP.nil : DirP [] := ⟨Nat.zero_le _, fun _ h => (by cases h), .nil⟩

/-! ### what the functions answer -/
def freshB (now : Int) (x : LD) : Bool := decide (now ≤ x.t + 10)
def sweepL (now : Int) (xs : List LD) : List LD := xs.filter (freshB now)
def hasN (xs : List LD) (node : Int) : Bool := xs.any (fun x => x.n == node)
def newer (node now : Int) (x : LD) : LD := if x.n = node then ⟨x.n, max x.t now⟩ else x
def setL (xs : List LD) (node now : Int) : List LD := xs.map (newer node now)
def ltN (node : Int) (x : LD) : Bool := decide (x.n < node)
def insL (xs : List LD) (node now : Int) : List LD := xs.takeWhile (ltN node) ++ ⟨node, now⟩ :: xs.dropWhile (ltN node)
def putIn (xs : List LD) (node now : Int) : Bool := dirB xs && (nOk node && tOk now)
def baseL (xs : List LD) (now : Int) : List LD := if 8 ≤ xs.length then sweepL now xs else xs
def putL (xs : List LD) (node now : Int) : List LD :=
  if putIn xs node now = true then
    (if hasN xs node = true then setL xs node now else if 8 ≤ (baseL xs now).length then baseL xs now else insL (baseL xs now) node now)
  else []
def putO (xs : List LD) (node now : Int) : Bool := putIn xs node now && (hasN xs node || decide ((baseL xs now).length < 8))
def sweepR (xs : List LD) (now : Int) : List LD := if (dirB xs && tOk now) = true then sweepL now xs else []
def timeB (xs : List LD) (node : Int) : Int := ((xs.find? (fun x => x.n == node)).map (·.t)).getD (-1)
/-- The index of the i-th node of a sample. -/
def sampI (n : Nat) (seed : Int) (i : Nat) : Nat := (seed.toNat % n + i) % n
def sampleL (xs : List LD) (seed many : Int) : List Int :=
  if (dirB xs && decide (0 ≤ seed)) = true then (List.range (min many.toNat xs.length)).map (fun i => (lth xs (sampI xs.length seed i)).n) else []

theorem putIn_iff (xs : List LD) (node now : Int) : putIn xs node now = true ↔ DirP xs ∧ (0 ≤ node ∧ node ≤ 99) ∧ (0 ≤ now ∧ now ≤ 999) := by
  unfold putIn
  rw [Bool.and_eq_true, Bool.and_eq_true, nOk_iff, tOk_iff]
  exact ⟨fun h => ⟨dirP_of h.1, h.2⟩, fun h => ⟨dirB_of h.1, h.2⟩⟩
theorem hasN_iff (xs : List LD) (node : Int) : hasN xs node = true ↔ ∃ x ∈ xs, x.n = node := by
  unfold hasN
  rw [List.any_eq_true]
  exact ⟨fun ⟨x, hx, h⟩ => ⟨x, hx, by simpa using h⟩, fun ⟨x, hx, h⟩ => ⟨x, hx, by simpa using h⟩⟩
theorem putL_no {xs : List LD} {node now : Int} (h : putIn xs node now = false) : putL xs node now = [] := by unfold putL; rw [h]; rfl
theorem putO_no {xs : List LD} {node now : Int} (h : putIn xs node now = false) : putO xs node now = false := by unfold putO; rw [h]; rfl
theorem putL_has {xs : List LD} {node now : Int} (h : putIn xs node now = true) (k : hasN xs node = true) : putL xs node now = setL xs node now := by unfold putL; rw [if_pos h, if_pos k]
theorem putO_has {xs : List LD} {node now : Int} (h : putIn xs node now = true) (k : hasN xs node = true) : putO xs node now = true := by unfold putO; rw [h, k]; rfl
theorem putL_full {xs : List LD} {node now : Int} (h : putIn xs node now = true) (k : hasN xs node = false) (f : 8 ≤ (baseL xs now).length) : putL xs node now = baseL xs now := by
  unfold putL; rw [if_pos h, if_neg (by rw [k]; simp), if_pos f]
theorem putO_full {xs : List LD} {node now : Int} (k : hasN xs node = false) (f : 8 ≤ (baseL xs now).length) : putO xs node now = false := by
  unfold putO; rw [k, decide_eq_false (by omega)]; simp
theorem putL_ins {xs : List LD} {node now : Int} (h : putIn xs node now = true) (k : hasN xs node = false) (f : ¬ 8 ≤ (baseL xs now).length) : putL xs node now = insL (baseL xs now) node now := by
  unfold putL; rw [if_pos h, if_neg (by rw [k]; simp), if_neg f]
theorem putO_ins {xs : List LD} {node now : Int} (h : putIn xs node now = true) (f : ¬ 8 ≤ (baseL xs now).length) : putO xs node now = true := by
  unfold putO; rw [h, decide_eq_true (show (baseL xs now).length < 8 by omega)]; simp
/-- How an answer of putL came about. -/
theorem put_cases (xs : List LD) (node now : Int) :
    (putIn xs node now = false ∧ putL xs node now = [] ∧ putO xs node now = false) ∨
    (putIn xs node now = true ∧ hasN xs node = true ∧ putL xs node now = setL xs node now ∧ putO xs node now = true) ∨
    (putIn xs node now = true ∧ hasN xs node = false ∧ 8 ≤ (baseL xs now).length ∧ putL xs node now = baseL xs now ∧ putO xs node now = false) ∨
    (putIn xs node now = true ∧ hasN xs node = false ∧ (baseL xs now).length < 8 ∧ putL xs node now = insL (baseL xs now) node now ∧ putO xs node now = true) := by
  cases h : putIn xs node now with
  | false => exact .inl ⟨rfl, putL_no h, putO_no h⟩
  | true =>
    cases k : hasN xs node with
    | true => exact .inr (.inl ⟨rfl, rfl, putL_has h k, putO_has h k⟩)
    | false =>
      by_cases f : 8 ≤ (baseL xs now).length
      · exact .inr (.inr (.inl ⟨rfl, rfl, f, putL_full h k f, putO_full k f⟩))
      · exact .inr (.inr (.inr ⟨rfl, rfl, by omega, putL_ins h k f, putO_ins h f⟩))

/-! ### lists -/
theorem while_of {p : LD → Bool} (xs : List LD) (k : Nat) (hk : k ≤ xs.length) (h1 : ∀ j, j < k → p (lth xs j) = true) (h2 : k = xs.length ∨ p (lth xs k) = false) : xs.takeWhile p = xs.take k ∧ xs.dropWhile p = xs.drop k := by
  induction xs generalizing k with
  | nil =>
    have : k = 0 := by simpa using hk
    subst this; exact ⟨rfl, rfl⟩
  | cons x xs ih =>
    cases k with
    | zero =>
      rcases h2 with h2 | h2
      · simp at h2
      · have : p x = false := h2
        rw [List.takeWhile_cons, List.dropWhile_cons, this]
        exact ⟨rfl, rfl⟩
    | succ k =>
      have h0 : p x = true := h1 0 (by omega)
      have := ih k (by simpa using hk) (fun j hj => h1 (j + 1) (by omega)) (h2.imp (fun h => by simpa using h) id)
      rw [List.takeWhile_cons, List.dropWhile_cons, h0, List.take_succ_cons, List.drop_succ_cons]
      exact ⟨by simp [this.1], by simp [this.2]⟩
theorem newer_n (node now : Int) (x : LD) : (newer node now x).n = x.n := by unfold newer; split <;> rfl
theorem DirP.set {xs : List LD} (h : DirP xs) {node now : Int} (hn : 0 ≤ now ∧ now ≤ 999) : DirP (setL xs node now) := by
  refine ⟨by unfold setL; rw [List.length_map]; exact h.len, fun x hx => ?_, ?_⟩
  · obtain ⟨y, hy, rfl⟩ := List.mem_map.1 hx
    have := h.ok y hy
    rw [newer_n]
    refine ⟨this.1, ?_⟩
    unfold newer
    split
    · show 0 ≤ max y.t now ∧ max y.t now ≤ 999
      omega
    · exact this.2
  · unfold setL
    rw [List.pairwise_map]
    refine h.asc.imp fun {a b} hab => ?_
    rw [newer_n, newer_n]
    exact hab
theorem sweep_sub (now : Int) (xs : List LD) : (sweepL now xs).Sublist xs := List.filter_sublist
theorem base_sub (xs : List LD) (now : Int) : (baseL xs now).Sublist xs := by unfold baseL; split <;> first | exact sweep_sub _ _ | exact List.Sublist.refl _
theorem mem_sweep {now : Int} {xs : List LD} {x : LD} : x ∈ sweepL now xs ↔ x ∈ xs ∧ now ≤ x.t + 10 := by
  unfold sweepL freshB
  rw [List.mem_filter, decide_eq_true_eq]
theorem mem_base {now : Int} {xs : List LD} {x : LD} (h : x ∈ xs) (f : now ≤ x.t + 10) : x ∈ baseL xs now := by
  unfold baseL; split <;> first | exact mem_sweep.2 ⟨h, f⟩ | exact h
theorem mem_dropWhile {p : LD → Bool} {xs : List LD} {x : LD} (h : x ∈ xs) : x ∈ xs.takeWhile p ∨ x ∈ xs.dropWhile p := by
  rw [← List.takeWhile_append_dropWhile (p := p) (l := xs)] at h
  exact List.mem_append.1 h
theorem DirP.behind {xs : List LD} (h : DirP xs) {node : Int} (hno : ∀ x ∈ xs, x.n ≠ node) : ∀ x ∈ xs.dropWhile (ltN node), node < x.n := by
  intro x hx
  have hd : (xs.dropWhile (ltN node)).Pairwise (fun a b => a.n < b.n) := h.asc.sublist (List.dropWhile_sublist _)
  cases e : xs.dropWhile (ltN node) with
  | nil => rw [e] at hx; cases hx
  | cons y ys =>
    have hy : ltN node y = false := by
      have := List.head?_dropWhile_not (ltN node) xs
      rw [e] at this
      simpa using this
    have hym : y ∈ xs := (List.dropWhile_sublist (ltN node)).subset (by rw [e]; exact List.mem_cons_self)
    have h1 : ¬ y.n < node := by unfold ltN at hy; exact of_decide_eq_false hy
    have h2 := hno y hym
    rw [e] at hx hd
    rcases List.mem_cons.1 hx with rfl | hx
    · omega
    · have := (List.pairwise_cons.1 hd).1 x hx
      omega
theorem before_lt {xs : List LD} {node : Int} : ∀ x ∈ xs.takeWhile (ltN node), x.n < node := by
  intro x hx
  have := List.all_eq_true.1 (List.all_takeWhile (p := ltN node) (l := xs)) x hx
  unfold ltN at this
  exact of_decide_eq_true this
theorem ins_length (xs : List LD) (node now : Int) : (insL xs node now).length = xs.length + 1 := by
  unfold insL
  have := congrArg List.length (List.takeWhile_append_dropWhile (p := ltN node) (l := xs))
  rw [List.length_append] at this
  rw [List.length_append, List.length_cons]
  omega
theorem DirP.ins {xs : List LD} (h : DirP xs) {node now : Int} (hl : xs.length < 8) (hno : ∀ x ∈ xs, x.n ≠ node) (h1 : 0 ≤ node ∧ node ≤ 99) (h2 : 0 ≤ now ∧ now ≤ 999) : DirP (insL xs node now) := by
  refine ⟨by rw [ins_length]; omega, fun x hx => ?_, ?_⟩
  · unfold insL at hx
    rcases List.mem_append.1 hx with hx | hx
    · exact h.ok x ((List.takeWhile_sublist _).subset hx)
    · rcases List.mem_cons.1 hx with rfl | hx
      · exact ⟨h1, h2⟩
      · exact h.ok x ((List.dropWhile_sublist _).subset hx)
  · unfold insL
    rw [List.pairwise_append]
    refine ⟨h.asc.sublist (List.takeWhile_sublist _), List.pairwise_cons.2 ⟨fun x hx => h.behind hno x hx, h.asc.sublist (List.dropWhile_sublist _)⟩, fun a ha b hb => ?_⟩
    have hA := before_lt a ha
    rcases List.mem_cons.1 hb with rfl | hb
    · exact hA
    · have := h.behind hno b hb
      omega
theorem mem_ins {xs : List LD} {node now : Int} {x : LD} (h : x ∈ xs) : x ∈ insL xs node now := by
  unfold insL
  rcases mem_dropWhile (p := ltN node) h with h | h
  · exact List.mem_append_left _ h
  · exact List.mem_append_right _ (List.mem_cons_of_mem _ h)
theorem ins_self (xs : List LD) (node now : Int) : (⟨node, now⟩ : LD) ∈ insL xs node now := by
  unfold insL; exact List.mem_append_right _ List.mem_cons_self

/-! ### times -/
theorem timeB_mem {xs : List LD} (h : DirP xs) {x : LD} (hx : x ∈ xs) : timeB xs x.n = x.t := by
  unfold timeB
  cases e : xs.find? (fun y => y.n == x.n) with
  | none =>
    have := List.find?_eq_none.1 e x hx
    simp at this
  | some y =>
    have hy := List.mem_of_find?_eq_some e
    have hn := List.find?_some e
    have := h.uniq hy hx (by simpa using hn)
    subst this
    rfl
theorem timeB_no {xs : List LD} {node : Int} (h : ∀ x ∈ xs, x.n ≠ node) : timeB xs node = -1 := by
  unfold timeB
  have e : xs.find? (fun y => y.n == node) = none := List.find?_eq_none.2 fun x hx => by simpa using h x hx
  rw [e]; rfl
theorem timeB_ge {xs : List LD} (h : ∀ x ∈ xs, 0 ≤ x.t) (node : Int) : -1 ≤ timeB xs node := by
  unfold timeB
  cases e : xs.find? (fun y => y.n == node) with
  | none => simp
  | some y =>
    have := h y (List.mem_of_find?_eq_some e)
    show -1 ≤ y.t
    omega

/-! ### the laws -/
section
variable {xs : List LD} {node now : Int}
theorem not_has (h : hasN xs node = false) : ∀ x ∈ xs, x.n ≠ node := fun x hx e => by
  have : hasN xs node = true := (hasN_iff xs node).2 ⟨x, hx, e⟩
  rw [h] at this
  cases this
theorem put_dir (h : putIn xs node now = true) : DirP (putL xs node now) := by
  obtain ⟨h1, h2, h3⟩ := (putIn_iff xs node now).1 h
  rcases put_cases xs node now with ⟨e, _⟩ | ⟨_, _, e, _⟩ | ⟨_, _, _, e, _⟩ | ⟨_, k, f, e, _⟩
  · rw [h] at e; cases e
  · rw [e]; exact h1.set h3
  · rw [e]; exact h1.sub (base_sub xs now)
  · rw [e]; exact (h1.sub (base_sub xs now)).ins f (fun x hx => not_has k x ((base_sub xs now).subset hx)) h2 h3
theorem law_listed (h : putO xs node now = true) : dirB (putL xs node now) = true ∧ now ≤ timeB (putL xs node now) node ∧ timeB xs node ≤ timeB (putL xs node now) node := by
  rcases put_cases xs node now with ⟨_, _, e⟩ | ⟨i, k, e, _⟩ | ⟨_, _, _, _, e⟩ | ⟨i, k, f, e, _⟩
  · rw [h] at e; cases e
  · have hd := put_dir i
    refine ⟨dirB_of hd, ?_⟩
    obtain ⟨x, hx, rfl⟩ := (hasN_iff xs node).1 k
    have h0 := ((putIn_iff xs x.n now).1 i).1
    have hm : (⟨x.n, max x.t now⟩ : LD) ∈ putL xs x.n now := by
      rw [e]
      have : newer x.n now x ∈ setL xs x.n now := List.mem_map_of_mem hx
      unfold newer at this
      rwa [if_pos rfl] at this
    have e1 := timeB_mem hd hm
    have e2 := timeB_mem h0 hx
    have e1' : timeB (putL xs x.n now) x.n = max x.t now := e1
    rw [e1', e2]
    omega
  · rw [h] at e; cases e
  · have hd := put_dir i
    refine ⟨dirB_of hd, ?_⟩
    have hm : (⟨node, now⟩ : LD) ∈ putL xs node now := by rw [e]; exact ins_self _ _ _
    have e1 : timeB (putL xs node now) node = now := timeB_mem hd hm
    have hn := ((putIn_iff xs node now).1 i).2.2
    rw [e1, timeB_no (not_has k)]
    omega
theorem law_others (h : dirB xs = true) (hne : 0 < (putL xs node now).length) {x : LD} (hx : x ∈ xs) (hf : now ≤ x.t + 10) (hn : x.n ≠ node) : timeB (putL xs node now) x.n = x.t := by
  rcases put_cases xs node now with ⟨_, e, _⟩ | ⟨i, k, e, _⟩ | ⟨i, _, _, e, _⟩ | ⟨i, k, f, e, _⟩
  · rw [e] at hne; simp at hne
  all_goals refine timeB_mem (put_dir i) ?_
  · rw [e]
    have : newer node now x ∈ setL xs node now := List.mem_map_of_mem hx
    unfold newer at this
    rwa [if_neg hn] at this
  · rw [e]; exact mem_base hx hf
  · rw [e]; exact mem_ins (mem_base hx hf)
theorem law_full (h : putO xs node now = false) (hne : 0 < (putL xs node now).length) : (∀ x ∈ xs, now ≤ x.t + 10 ∧ x.n ≠ node) ∧ xs.length = 8 ∧ putL xs node now = xs := by
  rcases put_cases xs node now with ⟨_, e, _⟩ | ⟨_, _, _, e⟩ | ⟨i, k, f, e, _⟩ | ⟨_, _, _, _, e⟩
  · rw [e] at hne; simp at hne
  · rw [h] at e; cases e
  · have hd := ((putIn_iff xs node now).1 i).1
    have hl := hd.len
    have h8 : 8 ≤ xs.length := Nat.le_trans f (base_sub xs now).length_le
    have eb : baseL xs now = sweepL now xs := by unfold baseL; rw [if_pos h8]
    rw [eb] at f
    have e3 : sweepL now xs = xs := (sweep_sub now xs).eq_of_length (by have := (sweep_sub now xs).length_le; omega)
    refine ⟨fun x hx => ⟨?_, not_has k x hx⟩, by omega, by rw [e, eb, e3]⟩
    rw [← e3] at hx
    exact (mem_sweep.1 hx).2
  · rw [h] at e; cases e
theorem law_twice (h : putO xs node now = true) : putO (putL xs node now) node now = true ∧ putL (putL xs node now) node now = putL xs node now := by
  have hl := law_listed h
  have hi : putIn xs node now = true := by
    cases e : putIn xs node now with
    | true => rfl
    | false => rw [putO_no e] at h; cases h
  have hd := put_dir hi
  have hq := (putIn_iff xs node now).1 hi
  have hi' : putIn (putL xs node now) node now = true := (putIn_iff _ _ _).2 ⟨hd, hq.2⟩
  have hk : hasN (putL xs node now) node = true := by
    cases e : hasN (putL xs node now) node with
    | true => rfl
    | false =>
      have h1 := hl.2.1
      rw [timeB_no (not_has e)] at h1
      have := hq.2.2
      omega
  refine ⟨putO_has hi' hk, ?_⟩
  rw [putL_has hi' hk]
  unfold setL
  conv => rhs; rw [← List.map_id (putL xs node now)]
  refine List.map_congr_left fun x hx => ?_
  show newer node now x = x
  unfold newer
  split
  · rename_i e
    have h1 := hl.2.1
    have e2 := timeB_mem hd hx
    rw [e] at e2
    rw [e2] at h1
    refine LD.same rfl ?_
    show max x.t now = x.t
    omega
  · rfl
theorem law_size (h : putO xs node now = true) : (putL xs node now).length ≤ 8 ∧ (putL xs node now).length ≤ xs.length + 1 := by
  refine ⟨((dirB_iff _).1 (law_listed h).1).1, ?_⟩
  rcases put_cases xs node now with ⟨_, _, e⟩ | ⟨i, k, e, _⟩ | ⟨_, _, _, _, e⟩ | ⟨i, k, f, e, _⟩
  · rw [h] at e; cases e
  · rw [e]; unfold setL; rw [List.length_map]; omega
  · rw [h] at e; cases e
  · rw [e, ins_length]
    have := (base_sub xs now).length_le
    omega
theorem sweepR_no (h : (dirB xs && tOk now) = false) : sweepR xs now = [] := by unfold sweepR; rw [h]; rfl
theorem sweepR_ok (h1 : dirB xs = true) (h2 : tOk now = true) : sweepR xs now = sweepL now xs := by unfold sweepR; rw [h1, h2]; rfl
theorem law_sweep (h : dirB xs = true) {x : LD} (hx : x ∈ xs) : freshB now x = decide (timeB (sweepL now xs) x.n = x.t) := by
  have hd := dirP_of h
  have hs := hd.sub (sweep_sub now xs)
  unfold freshB
  by_cases hf : now ≤ x.t + 10
  · rw [decide_eq_true hf, timeB_mem hs (mem_sweep.2 ⟨hx, hf⟩), decide_eq_true rfl]
  · have : timeB (sweepL now xs) x.n = -1 := timeB_no fun y hy e => by
      have := hd.uniq (mem_sweep.1 hy).1 hx e
      subst this
      exact hf (mem_sweep.1 hy).2
    have h0 := (hd.ok x hx).2
    rw [this, decide_eq_false hf, decide_eq_false (by omega)]
theorem law_sweep_twice : sweepR (sweepR xs now) now = sweepR xs now := by
  cases h : (dirB xs && tOk now) with
  | false =>
    rw [sweepR_no h]
    unfold sweepR sweepL
    split <;> rfl
  | true =>
    rw [Bool.and_eq_true] at h
    rw [sweepR_ok h.1 h.2, sweepR_ok (dirB_of ((dirP_of h.1).sub (sweep_sub now xs))) h.2]
    unfold sweepL
    rw [List.filter_filter]
    exact List.filter_congr fun x _ => by simp
end

theorem putL_le (xs : List LD) (node now : Int) (h : xs.length ≤ 1048576) : (putL xs node now).length ≤ 1048576 := by
  rcases put_cases xs node now with ⟨_, e, _⟩ | ⟨_, _, e, _⟩ | ⟨_, _, _, e, _⟩ | ⟨_, _, f, e, _⟩ <;> rw [e]
  · exact Nat.zero_le _
  · unfold setL; rw [List.length_map]; exact h
  · have := (base_sub xs now).length_le; omega
  · rw [ins_length]; omega
theorem sweepR_le (xs : List LD) (now : Int) (h : xs.length ≤ 1048576) : (sweepR xs now).length ≤ 1048576 := by
  unfold sweepR
  split
  · have := (sweep_sub now xs).length_le; omega
  · exact Nat.zero_le _

/-! ### samples -/
section
variable {xs : List LD} {seed many : Int}
theorem sample_no (h : (dirB xs && decide (0 ≤ seed)) = false) : sampleL xs seed many = [] := by unfold sampleL; rw [h]; rfl
theorem sample_ok (h1 : dirB xs = true) (h2 : 0 ≤ seed) : sampleL xs seed many = (List.range (min many.toNat xs.length)).map (fun i => (lth xs (sampI xs.length seed i)).n) := by
  unfold sampleL; rw [h1, decide_eq_true h2]; rfl
theorem sample_length (h1 : dirB xs = true) (h2 : 0 ≤ seed) : (sampleL xs seed many).length = min many.toNat xs.length := by
  rw [sample_ok h1 h2, List.length_map, List.length_range]
theorem sample_le (xs : List LD) (seed many : Int) : (sampleL xs seed many).length ≤ xs.length := by
  unfold sampleL
  split
  · rw [List.length_map, List.length_range]; omega
  · exact Nat.zero_le _
theorem sampI_lt {n : Nat} (hn : 0 < n) (i : Nat) : sampI n seed i < n := Nat.mod_lt _ hn
theorem sample_get (h1 : dirB xs = true) (h2 : 0 ≤ seed) (i : Nat) (hi : i < min many.toNat xs.length) : (sampleL xs seed many)[i]? = some (lth xs (sampI xs.length seed i)).n := by
  rw [sample_ok h1 h2, List.getElem?_map, List.getElem?_range hi]; rfl
theorem sampI_inj {n i j : Nat} (hi : i < n) (hj : j < n) (h : sampI n seed i = sampI n seed j) : i = j := by
  unfold sampI at h
  have hs : seed.toNat % n < n := Nat.mod_lt _ (by omega)
  generalize seed.toNat % n = s at h hs
  have mm : ∀ a, a < n + n → a % n = if a < n then a else a - n := by
    intro a ha
    split
    · exact Nat.mod_eq_of_lt ‹_›
    · rw [Nat.mod_eq_sub_mod (by omega), Nat.mod_eq_of_lt (by omega)]
  rw [mm _ (by omega), mm _ (by omega)] at h
  split at h <;> split at h <;> omega
theorem lth_inj (h : DirP xs) {i j : Nat} (hi : i < xs.length) (hj : j < xs.length) (e : (lth xs i).n = (lth xs j).n) : i = j := by
  have ha := List.pairwise_iff_getElem.1 h.asc
  rw [lth_eq xs i hi, lth_eq xs j hj] at e
  rcases Nat.lt_trichotomy i j with k | k | k
  · have := ha i j hi hj k; omega
  · exact k
  · have := ha j i hj hi k; omega
theorem sample_mem (h1 : dirB xs = true) (h2 : 0 ≤ seed) {i : Nat} {v : Int} (hv : (sampleL xs seed many)[i]? = some v) : i < min many.toNat xs.length ∧ v = (lth xs (sampI xs.length seed i)).n := by
  have hl : i < min many.toNat xs.length := by have := (List.getElem?_eq_some_iff.1 hv).1; rwa [sample_length h1 h2] at this
  rw [sample_get h1 h2 i hl] at hv
  injection hv with hv
  exact ⟨hl, hv.symm⟩
theorem law_sample_in (h1 : dirB xs = true) (h2 : 0 ≤ seed) {i : Nat} {v : Int} (hv : (sampleL xs seed many)[i]? = some v) : 0 ≤ timeB xs v ∧ ∀ j, j < i → (sampleL xs seed many)[j]? ≠ some v := by
  obtain ⟨hi, rfl⟩ := sample_mem h1 h2 hv
  have hd := dirP_of h1
  have hn : 0 < xs.length := by omega
  have hm := lth_mem xs _ (sampI_lt (seed := seed) hn i)
  refine ⟨by rw [timeB_mem hd hm]; exact (hd.ok _ hm).2.1, fun j hj e => ?_⟩
  obtain ⟨hjl, e⟩ := sample_mem h1 h2 e
  have := sampI_inj (seed := seed) (by omega) (by omega) (lth_inj hd (sampI_lt hn _) (sampI_lt hn _) e)
  omega
theorem sample_pos (h : 0 < (sampleL xs seed many).length) : dirB xs = true ∧ 0 ≤ seed ∧ 0 < xs.length ∧ 0 < many := by
  cases e : (dirB xs && decide (0 ≤ seed)) with
  | false => rw [sample_no e] at h; simp at h
  | true =>
    rw [Bool.and_eq_true, decide_eq_true_eq] at e
    rw [sample_length e.1 e.2] at h
    exact ⟨e.1, e.2, by omega, by omega⟩
theorem sample_one (h1 : dirB xs = true) (h2 : 0 ≤ seed) (hn : 0 < xs.length) : sampleL xs seed 1 = [(lth xs (seed.toNat % xs.length)).n] := by
  rw [sample_ok h1 h2, show min (1 : Int).toNat xs.length = 1 by simp; omega]
  show [(lth xs (sampI xs.length seed 0)).n] = _
  unfold sampI
  rw [Nat.add_zero, Nat.mod_mod]
/-- How many of the first k numbers behind seed begin a sample with the node i. -/
def hitN (xs : List LD) (seed : Int) (i k : Nat) : Nat := (List.range k).countP (fun (j : Nat) => (lth xs ((seed + (j : Int)).toNat % xs.length)).n == (lth xs i).n)
theorem hitN_succ (xs : List LD) (seed : Int) (i k : Nat) : hitN xs seed i (k + 1) = hitN xs seed i k + (if (lth xs ((seed + (k : Int)).toNat % xs.length)).n = (lth xs i).n then 1 else 0) := by
  unfold hitN
  rw [List.range_succ, List.countP_append, List.countP_cons, List.countP_nil, Nat.zero_add]
  simp only [beq_iff_eq]
theorem law_sample_all (h1 : dirB xs = true) (h2 : 0 ≤ seed) {i : Nat} (hi : i < xs.length) : hitN xs seed i xs.length = 1 := by
  have hd := dirP_of h1
  have hn : 0 < xs.length := by omega
  have hmod : ∀ j : Nat, (seed + (j : Int)).toNat % xs.length = sampI xs.length seed j := by
    intro j
    unfold sampI
    rw [Nat.mod_add_mod]
    congr 1
    omega
  -- the one that hits
  have hs : seed.toNat % xs.length < xs.length := Nat.mod_lt _ hn
  let j0 := (i + (xs.length - seed.toNat % xs.length)) % xs.length
  have hj0 : j0 < xs.length := Nat.mod_lt _ hn
  have hhit : sampI xs.length seed j0 = i := by
    show (seed.toNat % xs.length + (i + (xs.length - seed.toNat % xs.length)) % xs.length) % xs.length = i
    rw [Nat.add_mod_mod, show seed.toNat % xs.length + (i + (xs.length - seed.toNat % xs.length)) = i + xs.length by omega, Nat.add_mod_right, Nat.mod_eq_of_lt hi]
  have key : ∀ k, k ≤ xs.length → hitN xs seed i k = if j0 < k then 1 else 0 := by
    intro k
    induction k with
    | zero => intro _; rw [if_neg (Nat.not_lt_zero _)]; rfl
    | succ k ih =>
      intro hk
      rw [hitN_succ, ih (by omega), hmod]
      by_cases e : k = j0
      · subst e
        rw [hhit, if_pos rfl, if_neg (Nat.lt_irrefl _), if_pos (Nat.lt_succ_self _)]
      · have hne : (lth xs (sampI xs.length seed k)).n ≠ (lth xs i).n := fun h => by
          have h := lth_inj hd (sampI_lt hn _) hi h
          rw [← hhit] at h
          exact e (sampI_inj (by omega) hj0 h)
        rw [if_neg hne]
        split <;> split <;> omega
  rw [key _ (Nat.le_refl _), if_pos hj0]
theorem law_sample_more (h1 : dirB xs = true) (h2 : 0 ≤ seed) (m : Nat) (hm : m ≤ (sampleL xs seed many).length) : sampleL xs seed (m : Int) = (sampleL xs seed many).take m := by
  rw [sample_length h1 h2] at hm
  rw [sample_ok h1 h2, sample_ok h1 h2, ← List.map_take, List.take_range]
  rw [show min (m : Int).toNat xs.length = min m (min many.toNat xs.length) by omega]
theorem law_sample_whole (h1 : dirB xs = true) (h2 : 0 ≤ seed) : (sampleL xs seed (xs.length : Int)).length = xs.length ∧ ∀ i, i < xs.length → (lth xs i).n ∈ sampleL xs seed (xs.length : Int) := by
  have hl : (sampleL xs seed (xs.length : Int)).length = xs.length := by rw [sample_length h1 h2]; omega
  refine ⟨hl, fun i hi => ?_⟩
  have hn : 0 < xs.length := by omega
  have hs : seed.toNat % xs.length < xs.length := Nat.mod_lt _ hn
  let j0 := (i + (xs.length - seed.toNat % xs.length)) % xs.length
  have hj0 : j0 < xs.length := Nat.mod_lt _ hn
  have hhit : sampI xs.length seed j0 = i := by
    show (seed.toNat % xs.length + (i + (xs.length - seed.toNat % xs.length)) % xs.length) % xs.length = i
    rw [Nat.add_mod_mod, show seed.toNat % xs.length + (i + (xs.length - seed.toNat % xs.length)) = i + xs.length by omega, Nat.add_mod_right, Nat.mod_eq_of_lt hi]
  have := sample_get (many := (xs.length : Int)) h1 h2 j0 (by omega)
  rw [hhit] at this
  exact List.mem_of_getElem? this
theorem law_sample_shift (h1 : dirB xs = true) (h2 : 0 ≤ seed) : sampleL xs (seed + (xs.length : Int)) many = sampleL xs seed many := by
  rw [sample_ok h1 h2, sample_ok h1 (by omega)]
  refine List.map_congr_left fun i _ => ?_
  have : sampI xs.length (seed + (xs.length : Int)) i = sampI xs.length seed i := by
    unfold sampI
    rw [show (seed + (xs.length : Int)).toNat = seed.toNat + xs.length by omega, Nat.add_mod_right]
  rw [this]
end

end Go.Proofs.Ytjefkpjjdloodaa
