/- Contracts of the exact laws' helpers over slices of proofs of forks: the size, the copy, the comparison of equal ones, the marks. Conditions: the proofs lie in memory; copied and marked are at most 2^20. -/
import Derived.Test.YtkicfneikbiklaaExactRowN
import Derived.Test.YtkicfneikbiklaaNamedRows
import Derived.Test.YtkicfneikbiklaaExactFork
import Derived.Deep.DeepCutAuto
namespace Go.Proofs.Ytkicfneikbiklaa
open Go.RowKit
set_option linter.unusedVariables false

abbrev kV (r : KD) : Value := forkV r.p r.a r.b r.c r.x r.y r.z
theorem kth_set (xs : List KD) (k : Nat) (x : KD) (hk : k < xs.length) : (xs.set k x)[k]? = some x := by rw [List.getElem?_set_self hk]
/-- One number of a proof is written. -/
theorem fork_put0 {w : World} {base b cap : Nat} {xs : List KD} (h : OwnRow KK w base (some ⟨b, 0, none⟩) cap xs) (i : Nat) (hi : i < xs.length) (v : Int) :
    OwnRow KK (w.setCell ⟨b, i * 7, none⟩ (.int .i64 v)) base (some ⟨b, 0, none⟩) cap (xs.set i ⟨v, (kth xs i).a, (kth xs i).b, (kth xs i).c, (kth xs i).x, (kth xs i).y, (kth xs i).z⟩) ∧ w.grownBy (w.setCell ⟨b, i * 7, none⟩ (.int .i64 v)) (some b) :=
  h.stored i (kth xs i) ⟨v, (kth xs i).a, (kth xs i).b, (kth xs i).c, (kth xs i).x, (kth xs i).y, (kth xs i).z⟩ (kth_get xs i hi) 0 (by decide) (.int .i64 v) rfl
/-- One number of a proof is written. -/
theorem fork_put1 {w : World} {base b cap : Nat} {xs : List KD} (h : OwnRow KK w base (some ⟨b, 0, none⟩) cap xs) (i : Nat) (hi : i < xs.length) (v : Int) :
    OwnRow KK (w.setCell ⟨b, i * 7 + 1, none⟩ (.int .i64 v)) base (some ⟨b, 0, none⟩) cap (xs.set i ⟨(kth xs i).p, v, (kth xs i).b, (kth xs i).c, (kth xs i).x, (kth xs i).y, (kth xs i).z⟩) ∧ w.grownBy (w.setCell ⟨b, i * 7 + 1, none⟩ (.int .i64 v)) (some b) :=
  h.stored i (kth xs i) ⟨(kth xs i).p, v, (kth xs i).b, (kth xs i).c, (kth xs i).x, (kth xs i).y, (kth xs i).z⟩ (kth_get xs i hi) 1 (by decide) (.int .i64 v) rfl
/-- One number of a proof is written. -/
theorem fork_put2 {w : World} {base b cap : Nat} {xs : List KD} (h : OwnRow KK w base (some ⟨b, 0, none⟩) cap xs) (i : Nat) (hi : i < xs.length) (v : Int) :
    OwnRow KK (w.setCell ⟨b, i * 7 + 2, none⟩ (.int .i64 v)) base (some ⟨b, 0, none⟩) cap (xs.set i ⟨(kth xs i).p, (kth xs i).a, v, (kth xs i).c, (kth xs i).x, (kth xs i).y, (kth xs i).z⟩) ∧ w.grownBy (w.setCell ⟨b, i * 7 + 2, none⟩ (.int .i64 v)) (some b) :=
  h.stored i (kth xs i) ⟨(kth xs i).p, (kth xs i).a, v, (kth xs i).c, (kth xs i).x, (kth xs i).y, (kth xs i).z⟩ (kth_get xs i hi) 2 (by decide) (.int .i64 v) rfl
/-- One number of a proof is written. -/
theorem fork_put3 {w : World} {base b cap : Nat} {xs : List KD} (h : OwnRow KK w base (some ⟨b, 0, none⟩) cap xs) (i : Nat) (hi : i < xs.length) (v : Int) :
    OwnRow KK (w.setCell ⟨b, i * 7 + 3, none⟩ (.int .i64 v)) base (some ⟨b, 0, none⟩) cap (xs.set i ⟨(kth xs i).p, (kth xs i).a, (kth xs i).b, v, (kth xs i).x, (kth xs i).y, (kth xs i).z⟩) ∧ w.grownBy (w.setCell ⟨b, i * 7 + 3, none⟩ (.int .i64 v)) (some b) :=
  h.stored i (kth xs i) ⟨(kth xs i).p, (kth xs i).a, (kth xs i).b, v, (kth xs i).x, (kth xs i).y, (kth xs i).z⟩ (kth_get xs i hi) 3 (by decide) (.int .i64 v) rfl
/-- One number of a proof is written. -/
theorem fork_put4 {w : World} {base b cap : Nat} {xs : List KD} (h : OwnRow KK w base (some ⟨b, 0, none⟩) cap xs) (i : Nat) (hi : i < xs.length) (v : Int) :
    OwnRow KK (w.setCell ⟨b, i * 7 + 4, none⟩ (.int .i64 v)) base (some ⟨b, 0, none⟩) cap (xs.set i ⟨(kth xs i).p, (kth xs i).a, (kth xs i).b, (kth xs i).c, v, (kth xs i).y, (kth xs i).z⟩) ∧ w.grownBy (w.setCell ⟨b, i * 7 + 4, none⟩ (.int .i64 v)) (some b) :=
  h.stored i (kth xs i) ⟨(kth xs i).p, (kth xs i).a, (kth xs i).b, (kth xs i).c, v, (kth xs i).y, (kth xs i).z⟩ (kth_get xs i hi) 4 (by decide) (.int .i64 v) rfl
/-- One number of a proof is written. -/
theorem fork_put5 {w : World} {base b cap : Nat} {xs : List KD} (h : OwnRow KK w base (some ⟨b, 0, none⟩) cap xs) (i : Nat) (hi : i < xs.length) (v : Int) :
    OwnRow KK (w.setCell ⟨b, i * 7 + 5, none⟩ (.int .i64 v)) base (some ⟨b, 0, none⟩) cap (xs.set i ⟨(kth xs i).p, (kth xs i).a, (kth xs i).b, (kth xs i).c, (kth xs i).x, v, (kth xs i).z⟩) ∧ w.grownBy (w.setCell ⟨b, i * 7 + 5, none⟩ (.int .i64 v)) (some b) :=
  h.stored i (kth xs i) ⟨(kth xs i).p, (kth xs i).a, (kth xs i).b, (kth xs i).c, (kth xs i).x, v, (kth xs i).z⟩ (kth_get xs i hi) 5 (by decide) (.int .i64 v) rfl
/-- One number of a proof is written. -/
theorem fork_put6 {w : World} {base b cap : Nat} {xs : List KD} (h : OwnRow KK w base (some ⟨b, 0, none⟩) cap xs) (i : Nat) (hi : i < xs.length) (v : Int) :
    OwnRow KK (w.setCell ⟨b, i * 7 + 6, none⟩ (.int .i64 v)) base (some ⟨b, 0, none⟩) cap (xs.set i ⟨(kth xs i).p, (kth xs i).a, (kth xs i).b, (kth xs i).c, (kth xs i).x, (kth xs i).y, v⟩) ∧ w.grownBy (w.setCell ⟨b, i * 7 + 6, none⟩ (.int .i64 v)) (some b) :=
  h.stored i (kth xs i) ⟨(kth xs i).p, (kth xs i).a, (kth xs i).b, (kth xs i).c, (kth xs i).x, (kth xs i).y, v⟩ (kth_get xs i hi) 6 (by decide) (.int .i64 v) rfl
/-- A proof is written. -/
theorem fork_store {w : World} {base b cap : Nat} {xs : List KD} (h : OwnRow KK w base (some ⟨b, 0, none⟩) cap xs) (i : Nat) (hi : i < xs.length) (q : KD) :
    OwnRow KK (((((((w.setCell ⟨b, i * 7, none⟩ (.int .i64 q.p)).setCell ⟨b, i * 7 + 1, none⟩ (.int .i64 q.a)).setCell ⟨b, i * 7 + 2, none⟩ (.int .i64 q.b)).setCell ⟨b, i * 7 + 3, none⟩ (.int .i64 q.c)).setCell ⟨b, i * 7 + 4, none⟩ (.int .i64 q.x)).setCell ⟨b, i * 7 + 5, none⟩ (.int .i64 q.y)).setCell ⟨b, i * 7 + 6, none⟩ (.int .i64 q.z)) base (some ⟨b, 0, none⟩) cap (xs.set i q) ∧ w.grownBy (((((((w.setCell ⟨b, i * 7, none⟩ (.int .i64 q.p)).setCell ⟨b, i * 7 + 1, none⟩ (.int .i64 q.a)).setCell ⟨b, i * 7 + 2, none⟩ (.int .i64 q.b)).setCell ⟨b, i * 7 + 3, none⟩ (.int .i64 q.c)).setCell ⟨b, i * 7 + 4, none⟩ (.int .i64 q.x)).setCell ⟨b, i * 7 + 5, none⟩ (.int .i64 q.y)).setCell ⟨b, i * 7 + 6, none⟩ (.int .i64 q.z)) (some b) := by
  have h0 := h.stored i (kth xs i) ⟨q.p, (kth xs i).a, (kth xs i).b, (kth xs i).c, (kth xs i).x, (kth xs i).y, (kth xs i).z⟩ (kth_get xs i hi) 0 (by decide) (.int .i64 q.p) rfl
  have h1 := h0.1.stored i ⟨q.p, (kth xs i).a, (kth xs i).b, (kth xs i).c, (kth xs i).x, (kth xs i).y, (kth xs i).z⟩ ⟨q.p, q.a, (kth xs i).b, (kth xs i).c, (kth xs i).x, (kth xs i).y, (kth xs i).z⟩ (by rw [List.getElem?_set_self hi]) 1 (by decide) (.int .i64 q.a) rfl
  rw [List.set_set] at h1
  have h2 := h1.1.stored i ⟨q.p, q.a, (kth xs i).b, (kth xs i).c, (kth xs i).x, (kth xs i).y, (kth xs i).z⟩ ⟨q.p, q.a, q.b, (kth xs i).c, (kth xs i).x, (kth xs i).y, (kth xs i).z⟩ (by rw [List.getElem?_set_self hi]) 2 (by decide) (.int .i64 q.b) rfl
  rw [List.set_set] at h2
  have h3 := h2.1.stored i ⟨q.p, q.a, q.b, (kth xs i).c, (kth xs i).x, (kth xs i).y, (kth xs i).z⟩ ⟨q.p, q.a, q.b, q.c, (kth xs i).x, (kth xs i).y, (kth xs i).z⟩ (by rw [List.getElem?_set_self hi]) 3 (by decide) (.int .i64 q.c) rfl
  rw [List.set_set] at h3
  have h4 := h3.1.stored i ⟨q.p, q.a, q.b, q.c, (kth xs i).x, (kth xs i).y, (kth xs i).z⟩ ⟨q.p, q.a, q.b, q.c, q.x, (kth xs i).y, (kth xs i).z⟩ (by rw [List.getElem?_set_self hi]) 4 (by decide) (.int .i64 q.x) rfl
  rw [List.set_set] at h4
  have h5 := h4.1.stored i ⟨q.p, q.a, q.b, q.c, q.x, (kth xs i).y, (kth xs i).z⟩ ⟨q.p, q.a, q.b, q.c, q.x, q.y, (kth xs i).z⟩ (by rw [List.getElem?_set_self hi]) 5 (by decide) (.int .i64 q.y) rfl
  rw [List.set_set] at h5
  have h6 := h5.1.stored i ⟨q.p, q.a, q.b, q.c, q.x, q.y, (kth xs i).z⟩ q (by rw [List.getElem?_set_self hi]) 6 (by decide) (.int .i64 q.z) rfl
  rw [List.set_set] at h6
  exact ⟨h6.1, (World.grownBy.trans (World.grownBy.trans (World.grownBy.trans (World.grownBy.trans (World.grownBy.trans (World.grownBy.trans h0.2 h1.2) h2.2) h3.2) h4.2) h5.2) h6.2)⟩
theorem fork_cellF {w : World} {base b cap : Nat} {xs : List KD} (h : OwnRow KK w base (some ⟨b, 0, none⟩) cap xs) (i : Nat) (hi : i < xs.length) :
    (w.cell? ⟨b, i * 7, none⟩ = some (.int .i64 (kth xs i).p) ∧ w.frozen? ⟨b, i * 7, none⟩ = false) ∧ (w.cell? ⟨b, i * 7 + 1, none⟩ = some (.int .i64 (kth xs i).a) ∧ w.frozen? ⟨b, i * 7 + 1, none⟩ = false) ∧ (w.cell? ⟨b, i * 7 + 2, none⟩ = some (.int .i64 (kth xs i).b) ∧ w.frozen? ⟨b, i * 7 + 2, none⟩ = false) ∧ (w.cell? ⟨b, i * 7 + 3, none⟩ = some (.int .i64 (kth xs i).c) ∧ w.frozen? ⟨b, i * 7 + 3, none⟩ = false) ∧ (w.cell? ⟨b, i * 7 + 4, none⟩ = some (.int .i64 (kth xs i).x) ∧ w.frozen? ⟨b, i * 7 + 4, none⟩ = false) ∧ (w.cell? ⟨b, i * 7 + 5, none⟩ = some (.int .i64 (kth xs i).y) ∧ w.frozen? ⟨b, i * 7 + 5, none⟩ = false) ∧ (w.cell? ⟨b, i * 7 + 6, none⟩ = some (.int .i64 (kth xs i).z) ∧ w.frozen? ⟨b, i * 7 + 6, none⟩ = false) :=
  ⟨h.cellF i (kth xs i) (kth_get xs i hi) 0 _ rfl, h.cellF i (kth xs i) (kth_get xs i hi) 1 _ rfl, h.cellF i (kth xs i) (kth_get xs i hi) 2 _ rfl, h.cellF i (kth xs i) (kth_get xs i hi) 3 _ rfl, h.cellF i (kth xs i) (kth_get xs i hi) 4 _ rfl, h.cellF i (kth xs i) (kth_get xs i hi) 5 _ rfl, h.cellF i (kth xs i) (kth_get xs i hi) 6 _ rfl⟩
def noK (n : Nat) : List KD := List.replicate n ⟨0, 0, 0, 0, 0, 0, 0⟩
theorem copyK_step (xs : List KD) (k n : Nat) (hn : xs.length = n) (hk : k < n) : (xs.take k ++ noK (n - k)).set k (kth xs k) = xs.take (k + 1) ++ noK (n - (k + 1)) := by
  have hl : (xs.take k).length = k := by rw [List.length_take]; omega
  have e : n - k = (n - (k + 1)) + 1 := by omega
  have hz : noK (n - k) = ⟨0, 0, 0, 0, 0, 0, 0⟩ :: noK (n - (k + 1)) := by rw [e]; rfl
  rw [hz, take_kth xs k (by omega), List.set_append_right _ _ (by omega), hl, Nat.sub_self, List.append_assoc]
  rfl
theorem copyK_len (xs : List KD) (k n : Nat) (hn : xs.length = n) (hk : k ≤ n) : (xs.take k ++ noK (n - k)).length = n := by
  rw [List.length_append, List.length_take]
  unfold noK
  rw [List.length_replicate]; omega
theorem forkK_info : (Try.prog.info? 32).map (fun i => (i.zero, i.size, i.bytes)) = some (some (.agg #[.int .i64 0, .int .i64 0, .int .i64 0, .int .i64 0, .int .i64 0, .int .i64 0, .int .i64 0]), 7, 56) := by kernel_rfl
theorem seven_cells {w w' : World} {b o : Nat} {v0 v1 v2 v3 v4 v5 v6 : Value} (h : w.cell? ⟨b, o, none⟩ = some v0 ∧ w.cell? ⟨b, o + 1, none⟩ = some v1 ∧ w.cell? ⟨b, o + 2, none⟩ = some v2 ∧ w.cell? ⟨b, o + 3, none⟩ = some v3 ∧ w.cell? ⟨b, o + 4, none⟩ = some v4 ∧ w.cell? ⟨b, o + 5, none⟩ = some v5 ∧ w.cell? ⟨b, o + 6, none⟩ = some v6) (hb : Below w.heap.size w w') :
    w'.cell? ⟨b, o, none⟩ = some v0 ∧ w'.cell? ⟨b, o + 1, none⟩ = some v1 ∧ w'.cell? ⟨b, o + 2, none⟩ = some v2 ∧ w'.cell? ⟨b, o + 3, none⟩ = some v3 ∧ w'.cell? ⟨b, o + 4, none⟩ = some v4 ∧ w'.cell? ⟨b, o + 5, none⟩ = some v5 ∧ w'.cell? ⟨b, o + 6, none⟩ = some v6 := by
  obtain ⟨h0, h1, h2, h3, h4, h5, h6⟩ := h
  have hlt := World.block_lt_of_cell? w _ h0
  exact ⟨(hb.cell (p := ⟨b, o, none⟩) hlt).trans h0, (hb.cell (p := ⟨b, o + 1, none⟩) hlt).trans h1, (hb.cell (p := ⟨b, o + 2, none⟩) hlt).trans h2, (hb.cell (p := ⟨b, o + 3, none⟩) hlt).trans h3, (hb.cell (p := ⟨b, o + 4, none⟩) hlt).trans h4, (hb.cell (p := ⟨b, o + 5, none⟩) hlt).trans h5, (hb.cell (p := ⟨b, o + 6, none⟩) hlt).trans h6⟩

set_option maxHeartbeats 4000000 in
set_option maxRecDepth 100000 in
theorem szK_fit (A : Option Addr) (n cap : Nat) (w : World) (hn : n ≤ 1048576) :
    Calls Try.prog 15 #[.slice A n cap, .int .i64 1048576] w fun e w' => e = .returned (.int .i64 (1048576 - (n : Int))) ∧ w = w' := by
  have hw1 : IntKind.i64.wrap (1048576 - (n : Int)) = 1048576 - (n : Int) := IntWalk.i64_in _ (by omega)
  obtain ⟨r, hr⟩ : ∃ r, 1048576 - (n : Int) = r := ⟨_, rfl⟩
  have h0 : ¬ r < 0 := by omega
  rw [hr] at hw1 ⊢
  go_enter Try.func15, Try.ntmps15
  go_wp2
  go_ret
  exact ⟨rfl, rfl⟩

set_option maxHeartbeats 4000000 in
set_option maxRecDepth 100000 in
theorem szK_over (A : Option Addr) (n cap : Nat) (w : World) (hn : 1048576 < n) (hm : n ≤ maxLen) :
    Calls Try.prog 15 #[.slice A n cap, .int .i64 1048576] w fun e w' => e = .returned (.int .i64 (-1)) ∧ w = w' := by
  unfold maxLen at hm
  have hw1 : IntKind.i64.wrap (1048576 - (n : Int)) = 1048576 - (n : Int) := IntWalk.i64_in _ (by omega)
  obtain ⟨r, hr⟩ : ∃ r, 1048576 - (n : Int) = r := ⟨_, rfl⟩
  have h0 : r < 0 := by omega
  rw [hr] at hw1
  go_enter Try.func15, Try.ntmps15
  go_wp2
  go_ret
  exact ⟨rfl, rfl⟩

set_option maxHeartbeats 8000000 in
set_option maxRecDepth 100000 in
theorem toKs_any (A : Option Addr) (cap : Nat) (xs : List KD) (w : World) (hI : RowAt KK w w.heap.size A xs) (hm : xs.length ≤ 1048576) :
    Calls Try.prog 16 #[.slice A xs.length cap] w fun e w' => e = .returned (.slice (some ⟨w.heap.size, 0, none⟩) xs.length xs.length) ∧ OwnRow KK w' w.heap.size (some ⟨w.heap.size, 0, none⟩) xs.length xs ∧ Below w.heap.size w w' := by
  have HI := Lib.hid hI
  obtain ⟨n, HN⟩ : ∃ n, Hid (xs.length = n) := ⟨_, rfl⟩
  rw [HN.out] at hm ⊢
  clear hI
  obtain ⟨i0, hi0, hz0, hz1, hz2⟩ := info_parts forkK_info
  have hmk := fun W => run_make_kind (P := Try.prog) KK 23 ⟨0, 0, 0, 0, 0, 0, 0⟩ _ Try.underlying23 hi0 hz0 hz1 hz2 rfl .i64 .i64 n (by show 56 * n ≤ _; omega) (by omega) W
  obtain ⟨W, HW⟩ : ∃ Q0, Hid (w.alloc (.cells (KK.cells (List.replicate n ⟨0, 0, 0, 0, 0, 0, 0⟩)).toArray KK.e) = Q0) := ⟨_, rfl⟩
  have HO0 : Hid (OwnRow KK W w.heap.size (some ⟨w.heap.size, 0, none⟩) n (noK n)) := by rw [← HW.out]; exact OwnRow.made KK w n ⟨0, 0, 0, 0, 0, 0, 0⟩ (by unfold maxLen; omega)
  have HB0 : Hid (Below w.heap.size w W) := by rw [← HW.out]; exact (Below.refl _ _).alloc (Nat.le_refl _) _
  have hWz : w.heap.size < W.heap.size := (HO0.out.lies _ rfl).2
  clear hz0 hz1 hz2 hi0
  go_enter Try.func16, Try.ntmps16
  go_upto_region 2 with fail
  rw [HW.out]
  clear hmk
  go_wp2
  go_loopw [4] (fun i w' => ∃ k : Nat, k ≤ n ∧ i = .int .i64 k ∧ Hid (OwnRow KK w' w.heap.size (some ⟨w.heap.size, 0, none⟩) n (xs.take k ++ noK (n - k))) ∧ Hid (Below w.heap.size w w')) (fun i _ => n - (intOf i).toNat)
  case atStart => exact ⟨0, Nat.zero_le _, rfl, (by show OwnRow _ _ _ _ _ _; have h := HO0.out; simpa using h), HB0⟩
  case round =>
    obtain ⟨k, hk, rfl, HO, HB⟩ := hrel
    by_cases hlt : k < n
    · have hkz : k < xs.length := by rw [HN.out]; exact hlt
      have hj := HI.out.belowS HB.out
      obtain ⟨b, o, rfl⟩ := hj.some_ (by omega)
      obtain ⟨c0, c1, c2, c3, c4, c5, c6⟩ := fork_seven hj k hkz
      obtain ⟨q, HQ⟩ : ∃ x, Hid (kth xs k = x) := ⟨_, rfl⟩
      rw [HQ.out] at c0 c1 c2 c3 c4 c5 c6
      obtain ⟨vp, va, vb, vc, vx, vy, vz⟩ := q
      simp only at c0 c1 c2 c3 c4 c5 c6
      have hki : (k : Int) < (n : Int) := by omega
      have hwz : w.heap.size ≤ wr.heap.size := HB.out.size
      clear hj
      go_wp2_with fail
      refine (toFork_any vp va vb vc vx vy vz wr).mono ?_
      rintro e w2 ⟨rfl, hb2⟩
      have HO2 := Lib.hid (HO.out.below hb2)
      have HB2 : Hid (Below w.heap.size w w2) := HB.out.trans (hb2.mono hwz)
      have hlen := copyK_len xs k n HN.out (by omega)
      obtain ⟨⟨d0, e0⟩, ⟨d1, e1⟩, ⟨d2, e2⟩, ⟨d3, e3⟩, ⟨d4, e4⟩, ⟨d5, e5⟩, ⟨d6, e6⟩⟩ := fork_cellF HO2.out k (by omega)
      have hs := fork_store HO2.out k (by omega) ⟨vp, va, vb, vc, vx, vy, vz⟩
      rw [← HQ.out, copyK_step xs k n HN.out hlt, HQ.out] at hs
      have HS := Lib.hid hs.1
      have HBS : Hid (Below w.heap.size w (((((((w2.setCell ⟨w.heap.size, k * 7, none⟩ (.int .i64 vp)).setCell ⟨w.heap.size, k * 7 + 1, none⟩ (.int .i64 va)).setCell ⟨w.heap.size, k * 7 + 2, none⟩ (.int .i64 vb)).setCell ⟨w.heap.size, k * 7 + 3, none⟩ (.int .i64 vc)).setCell ⟨w.heap.size, k * 7 + 4, none⟩ (.int .i64 vx)).setCell ⟨w.heap.size, k * 7 + 5, none⟩ (.int .i64 vy)).setCell ⟨w.heap.size, k * 7 + 6, none⟩ (.int .i64 vz))) := (((((((HB2.out.setCell (p := ⟨w.heap.size, k * 7, none⟩) (Nat.le_refl _) _).setCell (p := ⟨w.heap.size, k * 7 + 1, none⟩) (Nat.le_refl _) _).setCell (p := ⟨w.heap.size, k * 7 + 2, none⟩) (Nat.le_refl _) _).setCell (p := ⟨w.heap.size, k * 7 + 3, none⟩) (Nat.le_refl _) _).setCell (p := ⟨w.heap.size, k * 7 + 4, none⟩) (Nat.le_refl _) _).setCell (p := ⟨w.heap.size, k * 7 + 5, none⟩) (Nat.le_refl _) _).setCell (p := ⟨w.heap.size, k * 7 + 6, none⟩) (Nat.le_refl _) _)
      clear hkz hs hb2 c0 c1 c2 c3 c4 c5 c6 hlen
      go_wp2
      go_roundw
      case rel => exact ⟨k + 1, by omega, by go_num, HS, HBS⟩
      case measure => simp [intOf]; omega
    · have hkn : k = n := by omega
      subst hkn
      have ho := HO.out
      rw [Nat.sub_self, List.take_of_length_le (by rw [HN.out]; omega)] at ho
      have HO' : Hid (OwnRow KK wr w.heap.size (some ⟨w.heap.size, 0, none⟩) k xs) := by show OwnRow _ _ _ _ _ _; simpa [noK] using ho
      clear ho
      go_wp2
      go_ret
      exact ⟨rfl, HO'.out, HB.out⟩

set_option maxHeartbeats 8000000 in
set_option maxRecDepth 100000 in
theorem eqKs_any (A : Option Addr) (c : Nat) (A1 : Option Addr) (c1 : Nat) (xs : List KD) (w : World) (hJ : RowAt KK w w.heap.size A xs) (hJ1 : RowAt KK w w.heap.size A1 xs) (hm : xs.length ≤ maxLen) {n : Nat} (hn : xs.length = n) :
    Calls Try.prog 18 #[.slice A n c, .slice A1 n c1] w fun e w' => e = .returned (.bool true) ∧ Below w.heap.size w w' := by
  unfold maxLen at hm
  rw [hn] at hm
  have HN := Lib.hid hn
  have HJ := Lib.hid hJ
  have HJ1 := Lib.hid hJ1
  clear hJ hJ1 hn
  go_enter Try.func18, Try.ntmps18
  go_wp2
  go_loopw [5] (fun i w' => ∃ k : Nat, k ≤ n ∧ i = .int .i64 k ∧ Hid (Below w.heap.size w w')) (fun i _ => n - (intOf i).toNat)
  case atStart => exact ⟨0, Nat.zero_le _, rfl, Below.refl _ _⟩
  case round =>
    obtain ⟨k, hk, rfl, HB⟩ := hrel
    by_cases hlt : k < n
    · have hkz : k < xs.length := by rw [HN.out]; exact hlt
      have ja := HJ.out.belowS HB.out
      have jb := HJ1.out.belowS HB.out
      obtain ⟨b, o, rfl⟩ := ja.some_ (by omega)
      obtain ⟨b', o', rfl⟩ := jb.some_ (by omega)
      have h1 := fork_seven ja k hkz
      have h2 := fork_seven jb k hkz
      obtain ⟨q, HQ⟩ : ∃ x, Hid (kth xs k = x) := ⟨_, rfl⟩
      rw [HQ.out] at h1 h2
      obtain ⟨vp, va, vb, vc, vx, vy, vz⟩ := q
      simp only at h1 h2
      have H1 := Lib.hid h1
      have H2 := Lib.hid h2
      have hk0 : (0 : Int) ≤ (k : Int) := by omega
      have hki : (k : Int) < (n : Int) := by omega
      clear hkz ja jb h1 h2
      go_wp2_with fail
      refine wp_region_held_drew (S := (fun w' => (w'.cell? ⟨b, o + k * 7, none⟩ = some (.int .i64 vp) ∧ w'.cell? ⟨b, o + k * 7 + 1, none⟩ = some (.int .i64 va) ∧ w'.cell? ⟨b, o + k * 7 + 2, none⟩ = some (.int .i64 vb) ∧ w'.cell? ⟨b, o + k * 7 + 3, none⟩ = some (.int .i64 vc) ∧ w'.cell? ⟨b, o + k * 7 + 4, none⟩ = some (.int .i64 vx) ∧ w'.cell? ⟨b, o + k * 7 + 5, none⟩ = some (.int .i64 vy) ∧ w'.cell? ⟨b, o + k * 7 + 6, none⟩ = some (.int .i64 vz)) ∧ (w'.cell? ⟨b', o' + k * 7, none⟩ = some (.int .i64 vp) ∧ w'.cell? ⟨b', o' + k * 7 + 1, none⟩ = some (.int .i64 va) ∧ w'.cell? ⟨b', o' + k * 7 + 2, none⟩ = some (.int .i64 vb) ∧ w'.cell? ⟨b', o' + k * 7 + 3, none⟩ = some (.int .i64 vc) ∧ w'.cell? ⟨b', o' + k * 7 + 4, none⟩ = some (.int .i64 vx) ∧ w'.cell? ⟨b', o' + k * 7 + 5, none⟩ = some (.int .i64 vy) ∧ w'.cell? ⟨b', o' + k * 7 + 6, none⟩ = some (.int .i64 vz)))) (by kernel_rfl) (⟨H1.out, H2.out⟩) (fun hHeld => ?_)
      refine wpAnyH_take (i := 0) (v := ?zv61000) rfl (by kernel_rfl) (by kernel_rfl) (by kernel_rfl) (fun _ _ _ h => h) (Or.inl ⟨by kernel_rfl, ?zy61000⟩) (by assumption) ?zr61000
      case zy61000 => (intro w hSw; (try dsimp only at hSw); go_simp; try with_reducible rfl)
      change wpAnyH _ _ _ _ _ _ _ (Act.put _ (some 17) _) _
      simp only [Act.put, List.setIfInBounds_toArray, List.set_cons_zero, List.set_cons_succ]
      refine wpAnyH_take (i := 1) (v := ?zv61001) rfl (by kernel_rfl) (by kernel_rfl) (by kernel_rfl) (fun _ _ _ h => h) (Or.inl ⟨by kernel_rfl, ?zy61001⟩) (by assumption) ?zr61001
      case zy61001 => (intro w hSw; (try dsimp only at hSw); go_simp; try with_reducible rfl)
      change wpAnyH _ _ _ _ _ _ _ (Act.put _ (some 18) _) _
      simp only [Act.put, List.setIfInBounds_toArray, List.set_cons_zero, List.set_cons_succ]
      refine wpAnyH_take (i := 2) (v := ?zv61002) rfl (by kernel_rfl) (by kernel_rfl) (by kernel_rfl) (fun _ _ _ h => h) (Or.inl ⟨by kernel_rfl, ?zy61002⟩) (by assumption) ?zr61002
      case zy61002 => (intro w hSw; (try dsimp only at hSw); go_simp; try with_reducible rfl)
      change wpAnyH _ _ _ _ _ _ _ (Act.put _ (some 19) _) _
      simp only [Act.put, List.setIfInBounds_toArray, List.set_cons_zero, List.set_cons_succ]
      refine wpAnyH_take (i := 3) (v := ?zv61003) rfl (by kernel_rfl) (by kernel_rfl) (by kernel_rfl) (fun _ _ _ h => h) (Or.inl ⟨by kernel_rfl, ?zy61003⟩) (by assumption) ?zr61003
      case zy61003 => (intro w hSw; (try dsimp only at hSw); go_simp; try with_reducible rfl)
      change wpAnyH _ _ _ _ _ _ _ (Act.put _ (some 20) _) _
      simp only [Act.put, List.setIfInBounds_toArray, List.set_cons_zero, List.set_cons_succ]
      refine wpAnyH_take (i := 4) (v := ?zv61004) rfl (by kernel_rfl) (by kernel_rfl) (by kernel_rfl) (fun _ _ _ h => h) (Or.inl ⟨by kernel_rfl, ?zy61004⟩) (by assumption) ?zr61004
      case zy61004 => (intro w hSw; (try dsimp only at hSw); go_simp; try with_reducible rfl)
      change wpAnyH _ _ _ _ _ _ _ (Act.put _ (some 21) _) _
      simp only [Act.put, List.setIfInBounds_toArray, List.set_cons_zero, List.set_cons_succ]
      refine wpAnyH_take (i := 5) (v := ?zv61005) rfl (by kernel_rfl) (by kernel_rfl) (by kernel_rfl) (fun _ _ _ h => h) (Or.inl ⟨by kernel_rfl, ?zy61005⟩) (by assumption) ?zr61005
      case zy61005 => (intro w hSw; (try dsimp only at hSw); go_simp; try with_reducible rfl)
      change wpAnyH _ _ _ _ _ _ _ (Act.put _ (some 22) _) _
      simp only [Act.put, List.setIfInBounds_toArray, List.set_cons_zero, List.set_cons_succ]
      refine wpAnyH_take (i := 6) (v := ?zv61006) rfl (by kernel_rfl) (by kernel_rfl) (by kernel_rfl) (fun _ _ _ h => h) (Or.inl ⟨by kernel_rfl, ?zy61006⟩) (by assumption) ?zr61006
      case zy61006 => (intro w hSw; (try dsimp only at hSw); go_simp; try with_reducible rfl)
      change wpAnyH _ _ _ _ _ _ _ (Act.put _ (some 23) _) _
      simp only [Act.put, List.setIfInBounds_toArray, List.set_cons_zero, List.set_cons_succ]
      refine wpAnyH_take (i := 7) (v := ?zv61007) rfl (by kernel_rfl) (by kernel_rfl) (by kernel_rfl) (fun _ _ _ h => h) (Or.inl ⟨by kernel_rfl, ?zy61007⟩) (by assumption) ?zr61007
      case zy61007 => (intro w hSw; (try dsimp only at hSw); go_simp; try with_reducible rfl)
      change wpAnyH _ _ _ _ _ _ _ (Act.put _ (some 24) _) _
      simp only [Act.put, List.setIfInBounds_toArray, List.set_cons_zero, List.set_cons_succ]
      refine wpAnyH_ready (rs := [8]) (by kernel_rfl) (by simp) (AllReadyH.cons rfl (fun K hK => ?_) AllReadyH.nil)
      go_simp
      go_at_call 31
      refine (eqFork_same vp va vb vc vx vy vz _).mono ?_
      rintro e w2 ⟨rfl, hb2⟩
      have hb2 := below_drew_l hb2
      have H1 := Lib.hid (seven_cells H1.out hb2)
      have H2 := Lib.hid (seven_cells H2.out hb2)
      have HB2 : Hid (Below w.heap.size w w2) := HB.out.trans (hb2.mono HB.out.size)
      clear hb2
      refine hK.out _ _ (⟨H1.out, H2.out⟩) (fun hHeld => ?_)
      clear hK K
      (try simp only [Act.put, List.setIfInBounds_toArray, List.set_cons_zero, List.set_cons_succ])
      refine wpAnyH_take (i := 9) (v := ?zv61009) rfl (by kernel_rfl) (by kernel_rfl) (by kernel_rfl) (fun _ _ _ h => h) (Or.inl ⟨by kernel_rfl, ?zy61009⟩) (by assumption) ?zr61009
      case zy61009 => (intro w hSw; (try dsimp only at hSw); go_simp; try with_reducible rfl)
      change wpAnyH _ _ _ _ _ _ _ (Act.put _ (some 26) _) _
      simp only [Act.put, List.setIfInBounds_toArray, List.set_cons_zero, List.set_cons_succ]
      refine wpAnyH_done (by kernel_rfl) ?_ _
      go_wp2
      go_roundw
      case rel => exact ⟨k + 1, by omega, by go_num, HB2⟩
      case measure => simp [intOf]; omega
    · go_wp2
      go_ret
      exact ⟨rfl, HB.out⟩

/-- What marking leaves. -/
def MarkedK (w : World) (base : Nat) (A : Option Addr) (n : Nat) (e : Ending) (w' : World) : Prop :=
  e = .returned (.int .i64 ((1 + 7 * n : Nat) : Int)) ∧ (∀ b, A = some ⟨b, 0, none⟩ → w.grownBy w' (some b)) ∧ (A = none → Below w.heap.size w w')
theorem markedK_other {w w' : World} {base : Nat} {A : Option Addr} {cap n : Nat} {xs : List KD} {e : Ending} (h : OwnRow KK w base A cap xs) (hm : MarkedK w base A n e w') (hbw : base ≤ w.heap.size) : Below base w w' ∧ (∀ i, i < w.heap.size → (∀ g, A = some ⟨g, 0, none⟩ → i ≠ g) → w'.heap[i]? = w.heap[i]?) := by
  obtain ⟨_, hg, hn⟩ := hm
  rcases h.nowhere with hA | ⟨g, hA⟩
  · have e := hn hA
    exact ⟨e.mono hbw, fun i hi _ => e.block i hi⟩
  · have hgg := hg g hA
    have hlt := h.lies g hA
    exact ⟨(Below.refl _ _).grown hgg (by omega) (fun k hk => by injection hk with hk; omega), fun i hi hne => hgg.block i hi (fun e => hne g hA (by injection e))⟩

set_option maxHeartbeats 8000000 in
set_option maxRecDepth 100000 in
theorem markK_any (base b cap : Nat) (xs : List KD) (w : World) (hO : OwnRow KK w base (some ⟨b, 0, none⟩) cap xs) (hm : xs.length ≤ 1048576) :
    Calls Try.prog 19 #[.slice (some ⟨b, 0, none⟩) xs.length cap, .int .i64 1] w (MarkedK w base (some ⟨b, 0, none⟩) xs.length) := by
  have HO := Lib.hid hO
  obtain ⟨n, HN⟩ : ∃ n, Hid (xs.length = n) := ⟨_, rfl⟩
  rw [HN.out] at hm ⊢
  clear hO
  go_enter Try.func19, Try.ntmps19
  go_wp2
  go_loopw [1, 5] (fun x i w' => ∃ (k : Nat) (ys : List KD), k ≤ n ∧ x = .int .i64 (1 + 7 * (k : Int)) ∧ i = .int .i64 k ∧ Hid (ys.length = n) ∧ Hid (OwnRow KK w' base (some ⟨b, 0, none⟩) cap ys) ∧ Hid (w.grownBy w' (some b))) (fun _ i _ => n - (intOf i).toNat)
  case atStart => exact ⟨0, xs, Nat.zero_le _, rfl, rfl, HN, HO, World.grownBy.refl _ _⟩
  case round =>
    obtain ⟨k, y0, hk, rfl, rfl, HL0, HO0, HG0⟩ := hrel
    by_cases hlt : k < n
    · have hki : (k : Int) < (n : Int) := by omega
      have hw1 : IntKind.i64.wrap (1 + 7 * (k : Int) + 1) = 2 + 7 * (k : Int) := by rw [show 1 + 7 * (k : Int) + 1 = 2 + 7 * (k : Int) by omega]; exact IntWalk.i64_in _ (by omega)
      have hw2 : IntKind.i64.wrap (2 + 7 * (k : Int) + 1) = 3 + 7 * (k : Int) := by rw [show 2 + 7 * (k : Int) + 1 = 3 + 7 * (k : Int) by omega]; exact IntWalk.i64_in _ (by omega)
      have hw3 : IntKind.i64.wrap (3 + 7 * (k : Int) + 1) = 4 + 7 * (k : Int) := by rw [show 3 + 7 * (k : Int) + 1 = 4 + 7 * (k : Int) by omega]; exact IntWalk.i64_in _ (by omega)
      have hw4 : IntKind.i64.wrap (4 + 7 * (k : Int) + 1) = 5 + 7 * (k : Int) := by rw [show 4 + 7 * (k : Int) + 1 = 5 + 7 * (k : Int) by omega]; exact IntWalk.i64_in _ (by omega)
      have hw5 : IntKind.i64.wrap (5 + 7 * (k : Int) + 1) = 6 + 7 * (k : Int) := by rw [show 5 + 7 * (k : Int) + 1 = 6 + 7 * (k : Int) by omega]; exact IntWalk.i64_in _ (by omega)
      have hw6 : IntKind.i64.wrap (6 + 7 * (k : Int) + 1) = 7 + 7 * (k : Int) := by rw [show 6 + 7 * (k : Int) + 1 = 7 + 7 * (k : Int) by omega]; exact IntWalk.i64_in _ (by omega)
      have hw7 : IntKind.i64.wrap (7 + 7 * (k : Int) + 1) = 8 + 7 * (k : Int) := by rw [show 7 + 7 * (k : Int) + 1 = 8 + 7 * (k : Int) by omega]; exact IntWalk.i64_in _ (by omega)
      obtain ⟨⟨d0, e0⟩, ⟨d1, e1⟩, ⟨d2, e2⟩, ⟨d3, e3⟩, ⟨d4, e4⟩, ⟨d5, e5⟩, ⟨d6, e6⟩⟩ := fork_cellF HO0.out k (by rw [HL0.out]; exact hlt)
      have hs := fork_put0 HO0.out k (by rw [HL0.out]; exact hlt) (1 + 7 * (k : Int))
      go_upto_region 5 with fail
      obtain ⟨W1, HW1⟩ : ∃ Q0, Hid (wr.setCell ⟨b, k * 7, none⟩ (.int .i64 (1 + 7 * (k : Int))) = Q0) := ⟨_, rfl⟩
      rw [HW1.out] at hs ⊢
      have HG1 : Hid (w.grownBy W1 (some b)) := World.grownBy.trans HG0.out hs.2
      obtain ⟨y1, HY1⟩ : ∃ v, Hid (y0.set k ⟨(1 + 7 * (k : Int)), (kth y0 k).a, (kth y0 k).b, (kth y0 k).c, (kth y0 k).x, (kth y0 k).y, (kth y0 k).z⟩ = v) := ⟨_, rfl⟩
      have HL1 : Hid (y1.length = n) := by show _ = _; rw [← HY1.out, List.length_set]; exact HL0.out
      rw [HY1.out] at hs
      have HO1 := Lib.hid hs.1
      clear hs d0 e0 d1 e1 d2 e2 d3 e3 d4 e4 d5 e5 d6 e6
      obtain ⟨⟨d0, e0⟩, ⟨d1, e1⟩, ⟨d2, e2⟩, ⟨d3, e3⟩, ⟨d4, e4⟩, ⟨d5, e5⟩, ⟨d6, e6⟩⟩ := fork_cellF HO1.out k (by rw [HL1.out]; exact hlt)
      have hs := fork_put1 HO1.out k (by rw [HL1.out]; exact hlt) (2 + 7 * (k : Int))
      go_upto_region 7 with fail
      obtain ⟨W2, HW2⟩ : ∃ Q0, Hid (W1.setCell ⟨b, k * 7 + 1, none⟩ (.int .i64 (2 + 7 * (k : Int))) = Q0) := ⟨_, rfl⟩
      rw [HW2.out] at hs ⊢
      have HG2 : Hid (w.grownBy W2 (some b)) := World.grownBy.trans HG1.out hs.2
      obtain ⟨y2, HY2⟩ : ∃ v, Hid (y1.set k ⟨(kth y1 k).p, (2 + 7 * (k : Int)), (kth y1 k).b, (kth y1 k).c, (kth y1 k).x, (kth y1 k).y, (kth y1 k).z⟩ = v) := ⟨_, rfl⟩
      have HL2 : Hid (y2.length = n) := by show _ = _; rw [← HY2.out, List.length_set]; exact HL1.out
      rw [HY2.out] at hs
      have HO2 := Lib.hid hs.1
      clear hs d0 e0 d1 e1 d2 e2 d3 e3 d4 e4 d5 e5 d6 e6
      obtain ⟨⟨d0, e0⟩, ⟨d1, e1⟩, ⟨d2, e2⟩, ⟨d3, e3⟩, ⟨d4, e4⟩, ⟨d5, e5⟩, ⟨d6, e6⟩⟩ := fork_cellF HO2.out k (by rw [HL2.out]; exact hlt)
      have hs := fork_put2 HO2.out k (by rw [HL2.out]; exact hlt) (3 + 7 * (k : Int))
      go_upto_region 9 with fail
      obtain ⟨W3, HW3⟩ : ∃ Q0, Hid (W2.setCell ⟨b, k * 7 + 2, none⟩ (.int .i64 (3 + 7 * (k : Int))) = Q0) := ⟨_, rfl⟩
      rw [HW3.out] at hs ⊢
      have HG3 : Hid (w.grownBy W3 (some b)) := World.grownBy.trans HG2.out hs.2
      obtain ⟨y3, HY3⟩ : ∃ v, Hid (y2.set k ⟨(kth y2 k).p, (kth y2 k).a, (3 + 7 * (k : Int)), (kth y2 k).c, (kth y2 k).x, (kth y2 k).y, (kth y2 k).z⟩ = v) := ⟨_, rfl⟩
      have HL3 : Hid (y3.length = n) := by show _ = _; rw [← HY3.out, List.length_set]; exact HL2.out
      rw [HY3.out] at hs
      have HO3 := Lib.hid hs.1
      clear hs d0 e0 d1 e1 d2 e2 d3 e3 d4 e4 d5 e5 d6 e6
      obtain ⟨⟨d0, e0⟩, ⟨d1, e1⟩, ⟨d2, e2⟩, ⟨d3, e3⟩, ⟨d4, e4⟩, ⟨d5, e5⟩, ⟨d6, e6⟩⟩ := fork_cellF HO3.out k (by rw [HL3.out]; exact hlt)
      have hs := fork_put3 HO3.out k (by rw [HL3.out]; exact hlt) (4 + 7 * (k : Int))
      go_upto_region 11 with fail
      obtain ⟨W4, HW4⟩ : ∃ Q0, Hid (W3.setCell ⟨b, k * 7 + 3, none⟩ (.int .i64 (4 + 7 * (k : Int))) = Q0) := ⟨_, rfl⟩
      rw [HW4.out] at hs ⊢
      have HG4 : Hid (w.grownBy W4 (some b)) := World.grownBy.trans HG3.out hs.2
      obtain ⟨y4, HY4⟩ : ∃ v, Hid (y3.set k ⟨(kth y3 k).p, (kth y3 k).a, (kth y3 k).b, (4 + 7 * (k : Int)), (kth y3 k).x, (kth y3 k).y, (kth y3 k).z⟩ = v) := ⟨_, rfl⟩
      have HL4 : Hid (y4.length = n) := by show _ = _; rw [← HY4.out, List.length_set]; exact HL3.out
      rw [HY4.out] at hs
      have HO4 := Lib.hid hs.1
      clear hs d0 e0 d1 e1 d2 e2 d3 e3 d4 e4 d5 e5 d6 e6
      obtain ⟨⟨d0, e0⟩, ⟨d1, e1⟩, ⟨d2, e2⟩, ⟨d3, e3⟩, ⟨d4, e4⟩, ⟨d5, e5⟩, ⟨d6, e6⟩⟩ := fork_cellF HO4.out k (by rw [HL4.out]; exact hlt)
      have hs := fork_put4 HO4.out k (by rw [HL4.out]; exact hlt) (5 + 7 * (k : Int))
      go_upto_region 13 with fail
      obtain ⟨W5, HW5⟩ : ∃ Q0, Hid (W4.setCell ⟨b, k * 7 + 4, none⟩ (.int .i64 (5 + 7 * (k : Int))) = Q0) := ⟨_, rfl⟩
      rw [HW5.out] at hs ⊢
      have HG5 : Hid (w.grownBy W5 (some b)) := World.grownBy.trans HG4.out hs.2
      obtain ⟨y5, HY5⟩ : ∃ v, Hid (y4.set k ⟨(kth y4 k).p, (kth y4 k).a, (kth y4 k).b, (kth y4 k).c, (5 + 7 * (k : Int)), (kth y4 k).y, (kth y4 k).z⟩ = v) := ⟨_, rfl⟩
      have HL5 : Hid (y5.length = n) := by show _ = _; rw [← HY5.out, List.length_set]; exact HL4.out
      rw [HY5.out] at hs
      have HO5 := Lib.hid hs.1
      clear hs d0 e0 d1 e1 d2 e2 d3 e3 d4 e4 d5 e5 d6 e6
      obtain ⟨⟨d0, e0⟩, ⟨d1, e1⟩, ⟨d2, e2⟩, ⟨d3, e3⟩, ⟨d4, e4⟩, ⟨d5, e5⟩, ⟨d6, e6⟩⟩ := fork_cellF HO5.out k (by rw [HL5.out]; exact hlt)
      have hs := fork_put5 HO5.out k (by rw [HL5.out]; exact hlt) (6 + 7 * (k : Int))
      go_upto_region 15 with fail
      obtain ⟨W6, HW6⟩ : ∃ Q0, Hid (W5.setCell ⟨b, k * 7 + 5, none⟩ (.int .i64 (6 + 7 * (k : Int))) = Q0) := ⟨_, rfl⟩
      rw [HW6.out] at hs ⊢
      have HG6 : Hid (w.grownBy W6 (some b)) := World.grownBy.trans HG5.out hs.2
      obtain ⟨y6, HY6⟩ : ∃ v, Hid (y5.set k ⟨(kth y5 k).p, (kth y5 k).a, (kth y5 k).b, (kth y5 k).c, (kth y5 k).x, (6 + 7 * (k : Int)), (kth y5 k).z⟩ = v) := ⟨_, rfl⟩
      have HL6 : Hid (y6.length = n) := by show _ = _; rw [← HY6.out, List.length_set]; exact HL5.out
      rw [HY6.out] at hs
      have HO6 := Lib.hid hs.1
      clear hs d0 e0 d1 e1 d2 e2 d3 e3 d4 e4 d5 e5 d6 e6
      obtain ⟨⟨d0, e0⟩, ⟨d1, e1⟩, ⟨d2, e2⟩, ⟨d3, e3⟩, ⟨d4, e4⟩, ⟨d5, e5⟩, ⟨d6, e6⟩⟩ := fork_cellF HO6.out k (by rw [HL6.out]; exact hlt)
      have hs := fork_put6 HO6.out k (by rw [HL6.out]; exact hlt) (7 + 7 * (k : Int))
      go_upto_region 17 with fail
      obtain ⟨W7, HW7⟩ : ∃ Q0, Hid (W6.setCell ⟨b, k * 7 + 6, none⟩ (.int .i64 (7 + 7 * (k : Int))) = Q0) := ⟨_, rfl⟩
      rw [HW7.out] at hs ⊢
      have HG7 : Hid (w.grownBy W7 (some b)) := World.grownBy.trans HG6.out hs.2
      obtain ⟨y7, HY7⟩ : ∃ v, Hid (y6.set k ⟨(kth y6 k).p, (kth y6 k).a, (kth y6 k).b, (kth y6 k).c, (kth y6 k).x, (kth y6 k).y, (7 + 7 * (k : Int))⟩ = v) := ⟨_, rfl⟩
      have HL7 : Hid (y7.length = n) := by show _ = _; rw [← HY7.out, List.length_set]; exact HL6.out
      rw [HY7.out] at hs
      have HO7 := Lib.hid hs.1
      clear hs d0 e0 d1 e1 d2 e2 d3 e3 d4 e4 d5 e5 d6 e6
      go_wp2
      go_roundw
      case rel => exact ⟨k + 1, y7, by omega, (by first | go_num | (simp; omega)), by go_num, HL7, HO7, HG7⟩
      case measure => simp [intOf]; omega
    · have hkn : k = n := by omega
      subst hkn
      go_wp2
      go_ret
      exact ⟨ret_int (by simp), (fun b' e => by injection e with e; injection e with e _ _; subst e; exact HG0.out), (fun e => by cases e)⟩

end Go.Proofs.Ytkicfneikbiklaa
