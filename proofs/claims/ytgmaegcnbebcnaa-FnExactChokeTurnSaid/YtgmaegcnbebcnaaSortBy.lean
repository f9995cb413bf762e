/- A comparison of two peers by what they gave; the library's sort by such a comparison, at 12 peers or fewer. Conditions: the numbers lie in memory, the peers in memory of the call's own. -/
import Derived.Test.YtgmaegcnbebcnaaServeMath
import Derived.Test.YtgmaegcnbebcnaaBaseA
import Derived.Test.YtgmaegcnbebcnaaBlk
import Derived.Test.YtgmaegcnbebcnaaBaseC
import Derived.Deep.RegionHeld3
import Derived.Deep.DeepCutAuto
import Derived.Lib.Hide
namespace Go.Proofs.Ytgmaegcnbebcnaa
open Go.RowKit
set_option linter.unusedVariables false

def cmpI (a b : Int) : Int := if a < b then -1 else if b < a then 1 else 0
def orI (a b : Int) : Int := if a = 0 then b else a

set_option maxHeartbeats 1000000 in
theorem isnan_any (a : Int) (w : World) : Calls Try.prog 61 #[.int .i64 a] w fun e w' => e = .returned (.bool false) ∧ w' = w := by
  go_enter Try.func61, Try.ntmps61
  go_wp2
  go_ret
  exact ⟨by simp, rfl⟩
set_option maxHeartbeats 1000000 in
theorem compare_any (a b : Int) (w : World) : Calls Try.prog 55 #[.int .i64 a, .int .i64 b] w fun e w' => e = .returned (.int .i64 (cmpI a b)) ∧ w' = w := by
  have C1 := fun w => isnan_any a w
  have C2 := fun w => isnan_any b w
  obtain ⟨r, hr, hR⟩ : ∃ r, cmpI a b = r ∧ ((a < b ∧ r = -1) ∨ (¬ a < b ∧ b < a ∧ r = 1) ∨ (¬ a < b ∧ ¬ b < a ∧ r = 0)) := by
    refine ⟨_, rfl, ?_⟩
    unfold cmpI
    by_cases h1 : a < b
    · exact .inl ⟨h1, if_pos h1⟩
    · by_cases h2 : b < a
      · exact .inr (.inl ⟨h1, h2, by rw [if_neg h1, if_pos h2]⟩)
      · exact .inr (.inr ⟨h1, h2, by rw [if_neg h1, if_neg h2]⟩)
  rw [hr]
  clear hr
  rcases hR with ⟨h1, rfl⟩ | ⟨h1, h2, rfl⟩ | ⟨h1, h2, rfl⟩
  · go_enter Try.func55, Try.ntmps55
    go_wp2_with fail
    refine (C1 _).mono ?_
    rintro e w1 ⟨rfl, rfl⟩
    go_wp2_with fail
    refine (C2 _).mono ?_
    rintro e w1 ⟨rfl, rfl⟩
    go_wp2
    go_ret
    exact ⟨rfl, rfl⟩
  · go_enter Try.func55, Try.ntmps55
    go_wp2_with fail
    refine (C1 _).mono ?_
    rintro e w1 ⟨rfl, rfl⟩
    go_wp2_with fail
    refine (C2 _).mono ?_
    rintro e w1 ⟨rfl, rfl⟩
    go_wp2
    go_ret
    exact ⟨rfl, rfl⟩
  · go_enter Try.func55, Try.ntmps55
    go_wp2_with fail
    refine (C1 _).mono ?_
    rintro e w1 ⟨rfl, rfl⟩
    go_wp2_with fail
    refine (C2 _).mono ?_
    rintro e w1 ⟨rfl, rfl⟩
    go_wp2
    go_ret
    exact ⟨rfl, rfl⟩
set_option maxHeartbeats 1000000 in
theorem or_any (A : Option Addr) (cap : Nat) (a b : Int) (w : World) (hI : IntsAt w w.heap.size A [a, b]) : Calls Try.prog 54 #[.slice A 2 cap] w fun e w' => e = .returned (.int .i64 (orI a b)) ∧ w' = w := by
  obtain ⟨g, o, rfl, _, hc⟩ := hI (by simp)
  have c0 : w.cell? ⟨g, o + 0, none⟩ = some (.int .i64 a) := hc 0 (by simp)
  have c1 : w.cell? ⟨g, o + 1, none⟩ = some (.int .i64 b) := hc 1 (by simp)
  rw [Nat.add_zero] at c0
  clear hc hI
  have ho : orI a b = if a = 0 then b else a := rfl
  by_cases h0 : a = 0
  · rw [ho, if_pos h0]
    clear ho
    subst h0
    by_cases h1 : b = 0
    · subst h1
      go_enter Try.func54, Try.ntmps54
      go_wp2
      refine wp_loop_rounds 3 ?_
      rw [rounds_succ]
      go_wp2
      rw [rounds_succ]
      go_wp2
      rw [rounds_succ]
      go_wp2
      go_ret
      exact ⟨rfl, rfl⟩
    · have hb : (b == 0) = false := beq_eq_false_iff_ne.2 h1
      go_enter Try.func54, Try.ntmps54
      go_wp2
      refine wp_loop_rounds 2 ?_
      rw [rounds_succ]
      go_wp2
      rw [rounds_succ]
      go_wp2
      go_ret
      exact ⟨rfl, rfl⟩
  · rw [ho, if_neg h0]
    clear ho
    have ha : (a == 0) = false := beq_eq_false_iff_ne.2 h0
    go_enter Try.func54, Try.ntmps54
    go_wp2
    refine wp_loop_rounds 1 ?_
    rw [rounds_succ]
    go_wp2
    go_ret
    exact ⟨rfl, rfl⟩

theorem two_new (W : World) (a b : Int) : IntsAt (W.alloc (.cells #[.int .i64 a, .int .i64 b] 3)) (W.alloc (.cells #[.int .i64 a, .int .i64 b] 3)).heap.size (some ⟨W.heap.size, 0, none⟩) [a, b] := fun _ => by
  have hb := Blk.new W 3 #[.int .i64 a, .int .i64 b]
  refine ⟨W.heap.size, 0, rfl, by simp, fun k hk => ?_⟩
  rw [Nat.zero_add, hb.cell k]
  rcases k with _ | _ | k
  · rfl
  · rfl
  · simp at hk; omega
theorem two_newD (W : World) (a b : Int) : IntsAt (W.alloc (.cells #[.int .i64 a, .int .i64 b] 3)).drew (W.alloc (.cells #[.int .i64 a, .int .i64 b] 3)).drew.heap.size (some ⟨W.heap.size, 0, none⟩) [a, b] := two_new W a b

def ordI (gs : List Int) (a b : Nat) : Int := orI (cmpI (nth gs b) (nth gs a)) (cmpI (a : Int) (b : Int))
theorem ordI_neg {gs : List Int} {a b : Nat} : ordI gs a b < 0 ↔ bef gs a b := by
  unfold ordI orI cmpI bef
  split <;> split <;> (try split) <;> (try split) <;> omega

set_option maxHeartbeats 3000000 in
set_option maxRecDepth 100000 in
theorem better_any (A : Option Addr) (cap : Nat) (gs : List Int) (a b : Nat) (w : World) (B : Nat) (hI : IntsAt w B A gs) (ha : a < gs.length) (hb : b < gs.length) :
    Calls Try.prog 39 #[.slice A gs.length cap, .int .i64 (a : Int), .int .i64 (b : Int)] w fun e w' => e = .returned (.int .i64 (ordI gs a b)) ∧ Below w.heap.size w w' := by
  obtain ⟨p, o, rfl, _, hc⟩ := hI (by omega)
  have ca := hc a ha
  have cb := hc b hb
  obtain ⟨n, HN⟩ : ∃ n, Hid (gs.length = n) := ⟨_, rfl⟩
  obtain ⟨x, HX⟩ : ∃ x, Hid (nth gs a = x) := ⟨_, rfl⟩
  obtain ⟨y, HY⟩ : ∃ y, Hid (nth gs b = y) := ⟨_, rfl⟩
  have HO : Hid (ordI gs a b = orI (cmpI y x) (cmpI (a : Int) (b : Int))) := by show _ = _; unfold ordI; rw [HX.out, HY.out]
  rw [HO.out]
  rw [HX.out] at ca
  rw [HY.out] at cb
  rw [HN.out] at ha hb ⊢
  have haz : (a : Int) < (n : Int) := by omega
  have hbz : (b : Int) < (n : Int) := by omega
  clear hI hc
  go_enter Try.func39, Try.ntmps39
  go_wp2_with fail
  go_region_held3 (fun w' => w'.cell? ⟨p, o + a, none⟩ = some (.int .i64 x) ∧ w'.cell? ⟨p, o + b, none⟩ = some (.int .i64 y)) (go_keep)
    (first
      | (go_at_call 55; (with_reducible refine (compare_any _ _ _).mono ?_); rintro e w' ⟨rfl, rfl⟩)
      | (go_at_call 54; (with_reducible refine (or_any _ _ _ _ _ (two_newD _ _ _)).mono ?_); rintro e w' ⟨rfl, rfl⟩))
  all_goals (go_wp2; go_ret)
  all_goals exact ⟨rfl, below_drew ((Below.refl _ _).alloc (Nat.le_refl _) _)⟩

theorem ownI_block {w w' : World} {base cap : Nat} {A : Option Addr} {zs : List Int} (h : OwnInts w base A cap zs) (hk : ∀ g, A = some ⟨g, 0, none⟩ → w'.heap[g]? = w.heap[g]?) : OwnInts w' base A cap zs := by
  refine ⟨h.1, ?_⟩
  rcases h.2 with h0 | ⟨g, c, cur, hv, hg, hgb, hr⟩
  · exact .inl h0
  · have hA : A = some ⟨g, 0, none⟩ := by injection hv
    exact .inr ⟨g, c, cur, hv, hg, (hk g hA).trans hgb, hr⟩
/-- The k-th peer of a list; two neighbours change their places. -/
def kpt (ks : List Nat) (k : Nat) : Nat := ks.getD k 0
def swp2 (ks : List Nat) (j : Nat) : List Nat := (ks.set (j + 1) (kpt ks j)).set j (kpt ks (j + 1))
theorem kpt_lt (ks : List Nat) (k : Nat) (h : k < ks.length) : kpt ks k = ks[k] := by
  unfold kpt; rw [List.getD_eq_getElem?_getD, List.getElem?_eq_getElem h]; rfl
theorem kpt_mem (ks : List Nat) (k : Nat) (h : k < ks.length) : kpt ks k ∈ ks := by rw [kpt_lt ks k h]; exact List.getElem_mem h
theorem nth_kpt (ks : List Nat) (k : Nat) : nth (numZ ks) k = ((kpt ks k : Nat) : Int) := nth_num ks k
theorem kpt_set (xs : List Nat) (i k x : Nat) (hi : i < xs.length) : kpt (xs.set i x) k = if k = i then x else kpt xs k := by
  unfold kpt
  rw [List.getD_eq_getElem?_getD, List.getD_eq_getElem?_getD, List.getElem?_set]
  by_cases e : k = i
  · subst e; rw [if_pos rfl, if_pos rfl, if_pos hi]; rfl
  · rw [if_neg (Ne.symm e), if_neg e]
theorem kpt_swp (xs : List Nat) (j k : Nat) (hj : j + 1 < xs.length) : kpt (swp2 xs j) k = if k = j then kpt xs (j + 1) else if k = j + 1 then kpt xs j else kpt xs k := by
  unfold swp2
  rw [kpt_set _ _ _ _ (by rw [List.length_set]; omega), kpt_set _ _ _ _ hj]
theorem swp2_length (xs : List Nat) (j : Nat) : (swp2 xs j).length = xs.length := by unfold swp2; rw [List.length_set, List.length_set]
theorem swp2_num (xs : List Nat) (j : Nat) : numZ (swp2 xs j) = ((numZ xs).set (j + 1) ((kpt xs j : Nat) : Int)).set j ((kpt xs (j + 1) : Nat) : Int) := by
  unfold swp2 numZ; rw [List.map_set, List.map_set]
def swap2L (xs : List Nat) (i j : Nat) : List Nat := (xs.set i (kpt xs j)).set j (kpt xs i)
theorem swap2_perm (xs : List Nat) (i j : Nat) (hi : i < xs.length) (hj : j < xs.length) : (swap2L xs i j).Perm xs := by
  rw [List.perm_iff_count]
  intro a
  unfold swap2L
  rw [List.count_set (by rw [List.length_set]; exact hj), List.count_set hi, List.getElem_set, kpt_lt xs i hi, kpt_lt xs j hj]
  have hpos : ∀ k (h : k < xs.length), xs[k] = a → 0 < xs.count a := fun k h e => List.count_pos_iff.2 (e ▸ List.getElem_mem h)
  by_cases e : i = j
  · subst e
    rw [if_pos rfl]
    have := hpos i hi
    by_cases h1 : xs[i] = a
    · have := this h1
      simp [h1]; omega
    · simp [h1]
  · rw [if_neg e]
    have p1 := hpos i hi
    have p2 := hpos j hj
    have p3 : xs[i] = a → xs[j] = a → 2 ≤ xs.count a := fun h1 h2 => by
      have := List.count_set (a := a + 1) (b := a) (l := xs) hi
      have hm : 0 < (xs.set i (a + 1)).count a := List.count_pos_iff.2 (by
        have := List.getElem_mem (l := xs.set i (a + 1)) (n := j) (by rw [List.length_set]; exact hj)
        rw [List.getElem_set, if_neg e, h2] at this
        exact this)
      rw [this] at hm
      simp [h1] at hm
      omega
    by_cases h1 : xs[i] = a <;> by_cases h2 : xs[j] = a
    · have := p3 h1 h2
      simp [h1, h2]; omega
    · have := p1 h1
      simp [h1, h2]; omega
    · have := p2 h2
      simp [h1, h2]
    · simp [h1, h2]
theorem swp2_perm (xs : List Nat) (j : Nat) (hj : j + 1 < xs.length) : (swp2 xs j).Perm xs := swap2_perm xs (j + 1) j hj (by omega)

/-- The first i peers are in order; they are but for the one at j, which is not yet low enough. -/
def SortedTo (gs : List Int) (ys : List Nat) (i : Nat) : Prop := ∀ p q, p < q → q < i → bef gs (kpt ys p) (kpt ys q)
def InsAt (gs : List Int) (ys : List Nat) (i j : Nat) : Prop := ∀ p q, p < q → q ≤ i → q ≠ j → bef gs (kpt ys p) (kpt ys q)
theorem sorted_one (gs : List Int) (ys : List Nat) : SortedTo gs ys 1 := fun p q h k => by omega
theorem ins_start {gs : List Int} {ys : List Nat} {i : Nat} (h : SortedTo gs ys i) : InsAt gs ys i i := fun p q hp hq hn => h p q hp (by omega)
theorem ins_zero {gs : List Int} {ys : List Nat} {i : Nat} (h : InsAt gs ys i 0) : SortedTo gs ys (i + 1) := fun p q hp hq => h p q hp (by omega) (by omega)
theorem ins_stop {gs : List Int} {ys : List Nat} {i j : Nat} (h : InsAt gs ys i (j + 1)) (hne : kpt ys j ≠ kpt ys (j + 1)) (hb : ¬ bef gs (kpt ys (j + 1)) (kpt ys j)) : SortedTo gs ys (i + 1) := fun p q hp hq => by
  by_cases e : q = j + 1
  · subst e
    have h1 := (bef_or gs hne).resolve_right hb
    by_cases e2 : p = j
    · subst e2; exact h1
    · exact bef_trans (h p j (by omega) (by omega) (by omega)) h1
  · exact h p q hp (by omega) e
theorem ins_step {gs : List Int} {ys : List Nat} {i j : Nat} (h : InsAt gs ys i (j + 1)) (hl : j + 1 < ys.length) (hi : j + 1 ≤ i) (hb : bef gs (kpt ys (j + 1)) (kpt ys j)) : InsAt gs (swp2 ys j) i j := fun p q hp hq hn => by
  rw [kpt_swp ys j p hl, kpt_swp ys j q hl, if_neg hn]
  by_cases e : q = j + 1
  · subst e
    rw [if_pos rfl]
    by_cases e2 : p = j
    · rw [if_pos e2]; exact hb
    · rw [if_neg e2, if_neg (by omega)]; exact h p j (by omega) (by omega) (by omega)
  · rw [if_neg e]
    by_cases e2 : p = j
    · rw [if_pos e2]; exact h (j + 1) q (by omega) hq e
    · rw [if_neg e2]
      by_cases e3 : p = j + 1
      · rw [if_pos e3]; exact h j q (by omega) hq e
      · rw [if_neg e3]; exact h p q hp hq e
theorem sorted_pair {gs : List Int} {ys : List Nat} {i : Nat} (h : SortedTo gs ys i) (hi : ys.length ≤ i) : ys.Pairwise (bef gs) :=
  List.pairwise_iff_getElem.2 fun p q hp hq hpq => by
    have := h p q hpq (by omega)
    rwa [kpt_lt ys p hp, kpt_lt ys q hq] at this
theorem kpt_ne {ys : List Nat} (h : ys.Nodup) {p q : Nat} (hq : q < ys.length) (hpq : p < q) : kpt ys p ≠ kpt ys q := by
  rw [kpt_lt ys p (by omega), kpt_lt ys q hq]
  exact List.pairwise_iff_getElem.1 h p q (by omega) hq hpq

set_option maxHeartbeats 4000000 in
set_option maxRecDepth 100000 in
theorem insert_any (A : Option Addr) (cap : Nat) (gs : List Int) (base q c n : Nat) (ks : List Nat) (w : World) (hI : IntsAt w base A gs) (hO : OwnInts w base (some ⟨q, 0, none⟩) c (numZ ks)) (hn : ks.length = n) (hm : n ≤ 1000000) (hks : ∀ x ∈ ks, x < gs.length) (hnd : ks.Nodup) :
    Calls Try.prog 63 #[.slice (some ⟨q, 0, none⟩) n c, .int .i64 0, .int .i64 (n : Int), .func (.func 39) #[.slice A gs.length cap] #[]] w fun e w' =>
      e = .returned (.tuple #[]) ∧ ∃ rs, rs.Perm ks ∧ rs.Pairwise (bef gs) ∧ OwnInts w' base (some ⟨q, 0, none⟩) c (numZ rs) ∧ Below base w w' := by
  have hq : base ≤ q := (World.ownsRow.lt hO q rfl).1
  have HI := Lib.hid hI
  have HO := Lib.hid hO
  have HN := Lib.hid hn
  have HKS := Lib.hid hks
  have HND := Lib.hid hnd
  obtain ⟨G, HG⟩ : ∃ G, Hid (gs.length = G) := ⟨_, rfl⟩
  rw [HG.out]
  clear hI hO hn hks hnd
  go_enter Try.func63, Try.ntmps63
  go_wp2
  go_loopg [8] n (fun g1 vi wr => ∃ (i : Nat) (ys : List Nat), vi = .int .i64 (i : Int) ∧ 1 ≤ i ∧ i ≤ n + 1 ∧ n + 1 - i ≤ g1 + 1 ∧ Hid (ys.Perm ks) ∧ Hid (SortedTo gs ys i) ∧ Hid (OwnInts wr base (some ⟨q, 0, none⟩) c (numZ ys)) ∧ Hid (Below base w wr))
  case atStart => exact ⟨1, ks, by go_num, by omega, by omega, by omega, List.Perm.refl _, sorted_one gs ks, HO.out, Below.refl _ _⟩
  case round =>
    obtain ⟨i, ys, rfl, hi1, hin, hg1, HP, HS, HR, HB⟩ := hrel
    by_cases hlt : i < n
    · have hltz : (i : Int) < (n : Int) := by omega
      go_wp2
      go_loopg [9] i (fun g2 vj wr2 => ∃ (j : Nat) (zs : List Nat), vj = .int .i64 (j : Int) ∧ j ≤ i ∧ j ≤ g2 ∧ Hid (zs.Perm ks) ∧ Hid (InsAt gs zs i j) ∧ Hid (OwnInts wr2 base (some ⟨q, 0, none⟩) c (numZ zs)) ∧ Hid (Below base w wr2))
      case atStart => exact ⟨i, ys, rfl, Nat.le_refl _, Nat.le_refl _, HP, ins_start HS.out, HR, HB⟩
      case round =>
        obtain ⟨j, zs, rfl, hji, hg2, HP2, HS2, HR2, HB2⟩ := hrel
        have hzl : zs.length = n := by rw [HP2.out.length_eq, HN.out]
        by_cases hj0 : 0 < j
        · obtain ⟨jp, rfl⟩ : ∃ jp, j = jp + 1 := ⟨j - 1, by omega⟩
          obtain ⟨q', o', e', _, hc⟩ := HR2.out.ints (by rw [numZ_length]; omega)
          injection e' with e'
          injection e' with e1 e2
          subst e1 e2
          have cj := hc (jp + 1) (by rw [numZ_length]; omega)
          have cp := hc jp (by rw [numZ_length]; omega)
          rw [nth_kpt, Nat.zero_add] at cj cp
          have hfz : ∀ k, wr.frozen? ⟨q, k, none⟩ = false := fun k => World.ownsRow.frozenAt HR2.out k
          have hql : q < wr.heap.size := (World.ownsRow.lt HR2.out q rfl).2
          obtain ⟨x, HX⟩ : ∃ x, Hid (kpt zs (jp + 1) = x) := ⟨_, rfl⟩
          obtain ⟨y, HY⟩ : ∃ y, Hid (kpt zs jp = y) := ⟨_, rfl⟩
          have hx : x < G := by rw [← HX.out, ← HG.out]; exact HKS.out _ (HP2.out.mem_iff.1 (kpt_mem zs (jp + 1) (by omega)))
          have hy : y < G := by rw [← HY.out, ← HG.out]; exact HKS.out _ (HP2.out.mem_iff.1 (kpt_mem zs jp (by omega)))
          rw [HX.out] at cj
          rw [HY.out] at cp
          have HC : Hid (∀ W, Below base w W → Calls Try.prog 39 #[.slice A G cap, .int .i64 (x : Int), .int .i64 (y : Int)] W fun e w' => e = .returned (.int .i64 (ordI gs x y)) ∧ Below W.heap.size W w') := by
            intro W hW
            have := better_any A cap gs x y W base (HI.out.below hW (Nat.le_refl _)) (by rw [HG.out]; exact hx) (by rw [HG.out]; exact hy)
            rwa [HG.out] at this
          clear hc
          have hjz : (0 : Int) < ((jp + 1 : Nat) : Int) := by omega
          have hj1 : ((jp + 1 : Nat) : Int) < (n : Int) := by omega
          have hj2 : ((jp : Nat) : Int) < (n : Int) := by omega
          have p0 : (0 : Int) ≤ (jp : Int) + 1 := by omega
          have e0 : ((jp : Int) + 1).toNat = jp + 1 := by omega
          have jz : (jp : Int) + 1 < (n : Int) := by omega
          have hjz' : (0 : Int) < (jp : Int) + 1 := by omega
          have hwp : IntKind.i64.wrap (jp : Int) = (jp : Int) := by rw [IntKind.wrap_i64]; omega
          obtain ⟨r, HRR⟩ : ∃ r, Hid (ordI gs x y = r) := ⟨_, rfl⟩
          rw [HRR.out] at HC
          have HBD : Hid (Below base w wr.drew) := below_drew HB2.out
          by_cases hlv : r < 0
          · go_wp2_with fail
            go_region_held3 (fun w' => w'.cell? ⟨q, jp + 1, none⟩ = some (.int .i64 (x : Int)) ∧ w'.cell? ⟨q, jp, none⟩ = some (.int .i64 (y : Int))) (go_keep)
              (first
                | (go_at_call 39; refine (HC.out _ HBD.out).mono ?_; rintro e w3 ⟨rfl, kb⟩; have k1 : w3.cell? ⟨q, jp + 1, none⟩ = some (.int .i64 (x : Int)) := (kb.cell (p := ⟨q, jp + 1, none⟩) hql).trans cj; have k2 : w3.cell? ⟨q, jp, none⟩ = some (.int .i64 (y : Int)) := (kb.cell (p := ⟨q, jp, none⟩) hql).trans cp))
            have HKB := Lib.hid kb
            have hfz3 : ∀ k, w3.frozen? ⟨q, k, none⟩ = false := fun k => (kb.frozen (p := ⟨q, k, none⟩) hql).trans (hfz k)
            have HR3 : Hid (OwnInts w3 base (some ⟨q, 0, none⟩) c (numZ zs)) := ownI_block HR2.out fun g hg => by
              injection hg with hg; injection hg with hg; subst hg
              exact kb.block q hql
            have HB3 : Hid (Below base w w3) := HBD.out.trans (kb.mono (by show base ≤ wr.heap.size; omega))
            clear kb hfz cj cp
            go_wp2_with fail
            go_region
            all_goals go_wp2
            have hset : OwnInts ((w3.setCell ⟨q, jp + 1, none⟩ (.int .i64 (y : Int))).setCell ⟨q, jp, none⟩ (.int .i64 (x : Int))) base (some ⟨q, 0, none⟩) c (numZ (swp2 zs jp)) := by
              rw [swp2_num, HX.out, HY.out]
              exact (HR3.out.stored (jp + 1) (y : Int)).stored jp (x : Int)
            go_roundg jp
            case measure => omega
            case rel => exact ⟨jp, swp2 zs jp, rfl, by omega, Nat.le_refl _, (swp2_perm zs jp (by omega)).trans HP2.out, ins_step HS2.out (by omega) hji (by rw [HX.out, HY.out, ← ordI_neg, HRR.out]; exact hlv), hset, below_drew ((HB3.out.setCell (p := ⟨q, jp + 1, none⟩) hq _).setCell (p := ⟨q, jp, none⟩) hq _)⟩
          · go_wp2_with fail
            go_region_held3 (fun w' => w'.cell? ⟨q, jp + 1, none⟩ = some (.int .i64 (x : Int)) ∧ w'.cell? ⟨q, jp, none⟩ = some (.int .i64 (y : Int))) (go_keep)
              (first
                | (go_at_call 39; refine (HC.out _ HBD.out).mono ?_; rintro e w3 ⟨rfl, kb⟩; have k1 : w3.cell? ⟨q, jp + 1, none⟩ = some (.int .i64 (x : Int)) := (kb.cell (p := ⟨q, jp + 1, none⟩) hql).trans cj; have k2 : w3.cell? ⟨q, jp, none⟩ = some (.int .i64 (y : Int)) := (kb.cell (p := ⟨q, jp, none⟩) hql).trans cp))
            have HR3 : Hid (OwnInts w3 base (some ⟨q, 0, none⟩) c (numZ zs)) := ownI_block HR2.out fun g hg => by
              injection hg with hg; injection hg with hg; subst hg
              exact kb.block q hql
            have HB3 : Hid (Below base w w3) := HBD.out.trans (kb.mono (by show base ≤ wr.heap.size; omega))
            clear kb
            go_wp2
            go_roundg (n - (i + 1))
            case measure => omega
            case rel => exact ⟨i + 1, zs, by go_num, by omega, by omega, by omega, HP2, ins_stop HS2.out (kpt_ne (HP2.out.nodup_iff.2 HND.out) (by omega) (by omega)) (by rw [HX.out, HY.out, ← ordI_neg, HRR.out]; omega), HR3, HB3⟩
        · have hj00 : j = 0 := by omega
          subst hj00
          go_wp2_with fail
          go_region
          all_goals go_wp2
          go_roundg (n - (i + 1))
          case measure => omega
          case rel => exact ⟨i + 1, zs, by go_num, by omega, by omega, by omega, HP2, ins_zero HS2.out, HR2, below_drew HB2.out⟩
    · have hni : ¬ (i : Int) < (n : Int) := by omega
      go_wp2
      go_end0
      exact ⟨rfl, ys, HP.out, sorted_pair HS.out (by rw [HP.out.length_eq, HN.out]; omega), HR.out, HB.out⟩

set_option maxHeartbeats 2000000 in
set_option maxRecDepth 100000 in
theorem bitsLen_any (n : Nat) (h : n ≤ 6) (w : World) : Calls Try.prog 34 #[.int .u64 (n : Int)] w fun e w' => (∃ l : Int, e = .returned (.int .i64 l)) ∧ w' = w := by
  have C : ∀ W, Calls Try.prog 50 #[.int .u64 (n : Int)] W fun e w' => (∃ l : Int, e = .returned (.int .i64 l)) ∧ w' = W := by
    intro W
    obtain rfl | rfl | rfl | rfl | rfl | rfl | rfl : n = 0 ∨ n = 1 ∨ n = 2 ∨ n = 3 ∨ n = 4 ∨ n = 5 ∨ n = 6 := by omega
    all_goals
      go_enter Try.func50, Try.ntmps50
      go_wp2
      go_ret
      exact ⟨⟨_, rfl⟩, rfl⟩
  go_enter Try.func34, Try.ntmps34
  go_wp2_with fail
  refine (C _).mono ?_
  rintro e w1 ⟨⟨l, rfl⟩, rfl⟩
  go_wp2
  go_ret
  exact ⟨⟨_, rfl⟩, rfl⟩

set_option maxHeartbeats 2000000 in
set_option maxRecDepth 100000 in
theorem pdqBy_any (A : Option Addr) (cap : Nat) (gs : List Int) (base q c n : Nat) (lim : Int) (ks : List Nat) (w : World) (hI : IntsAt w base A gs) (hO : OwnInts w base (some ⟨q, 0, none⟩) c (numZ ks)) (hn : ks.length = n) (hm : n ≤ 6) (hks : ∀ x ∈ ks, x < gs.length) (hnd : ks.Nodup) :
    Calls Try.prog 53 #[.slice (some ⟨q, 0, none⟩) n c, .int .i64 0, .int .i64 (n : Int), .int .i64 lim, .func (.func 39) #[.slice A gs.length cap] #[]] w fun e w' =>
      e = .returned (.tuple #[]) ∧ ∃ rs, rs.Perm ks ∧ rs.Pairwise (bef gs) ∧ OwnInts w' base (some ⟨q, 0, none⟩) c (numZ rs) ∧ Below base w w' := by
  have C := Lib.hid (insert_any A cap gs base q c n ks w hI hO hn (by omega) hks hnd)
  have hn12 : (n : Int) ≤ 12 := by omega
  clear hI hO hn hks hnd
  go_enter Try.func53, Try.ntmps53
  go_wp2
  refine wp_loop_rounds 1 ?_
  rw [rounds_succ]
  go_wp2_with fail
  refine C.out.mono ?_
  rintro e w1 ⟨rfl, h⟩
  have H := Lib.hid h
  clear h C
  go_wp2
  refine bodyPost_ret (results_none rfl _ _ _) rfl ?_
  exact ⟨rfl, H.out⟩

set_option maxHeartbeats 2000000 in
set_option maxRecDepth 100000 in
/-- **slices.SortFunc BY WHAT PEERS GAVE**. -/
theorem sortBy_any (A : Option Addr) (cap : Nat) (gs : List Int) (base q c n : Nat) (ks : List Nat) (w : World) (hI : IntsAt w base A gs) (hO : OwnInts w base (some ⟨q, 0, none⟩) c (numZ ks)) (hn : ks.length = n) (hm : n ≤ 6) (hks : ∀ x ∈ ks, x < gs.length) (hnd : ks.Nodup) :
    Calls Try.prog 38 #[.slice (some ⟨q, 0, none⟩) n c, .func (.func 39) #[.slice A gs.length cap] #[]] w fun e w' =>
      e = .returned (.tuple #[]) ∧ ∃ rs, rs.Perm ks ∧ rs.Pairwise (bef gs) ∧ OwnInts w' base (some ⟨q, 0, none⟩) c (numZ rs) ∧ Below base w w' := by
  have C : Hid (∀ lim, Calls Try.prog 53 #[.slice (some ⟨q, 0, none⟩) n c, .int .i64 0, .int .i64 (n : Int), .int .i64 lim, .func (.func 39) #[.slice A gs.length cap] #[]] w fun e w' =>
      e = .returned (.tuple #[]) ∧ ∃ rs, rs.Perm ks ∧ rs.Pairwise (bef gs) ∧ OwnInts w' base (some ⟨q, 0, none⟩) c (numZ rs) ∧ Below base w w') := fun lim => pdqBy_any A cap gs base q c n lim ks w hI hO hn hm hks hnd
  have C2 := fun W => bitsLen_any n hm W
  have hwr : IntKind.u64.wrap (n : Int) = (n : Int) := by
    obtain rfl | rfl | rfl | rfl | rfl | rfl | rfl : n = 0 ∨ n = 1 ∨ n = 2 ∨ n = 3 ∨ n = 4 ∨ n = 5 ∨ n = 6 := by omega
    all_goals rfl
  clear hI hO hn hks hnd
  go_enter Try.func38, Try.ntmps38
  go_wp2_with fail
  refine (C2 _).mono ?_
  rintro e w1 ⟨⟨l, rfl⟩, rfl⟩
  go_wp2_with fail
  refine (C.out _).mono ?_
  rintro e w1 ⟨rfl, h⟩
  have H := Lib.hid h
  clear h C C2
  go_wp2
  go_end0
  exact ⟨rfl, H.out⟩

end Go.Proofs.Ytgmaegcnbebcnaa
