/- A heap of blocks as data, and contracts of its methods Len and Less. Conditions: the heap lies in memory. -/
import Derived.Test.YtgjnhfciphiciaaHeapCmp
import Derived.Deep.RegionHeld3
namespace Go.Proofs.Ytgjnhfciphiciaa
open Go.RowKit
set_option linter.unusedVariables false

/-- A block with the number of its holders, as one number. -/
def blkZ (x : Nat) : Int := ((x % 16 : Nat) : Int)
def cntZ (x : Nat) : Int := ((x / 16 : Nat) : Int)
abbrev rareC (x : Nat) : Array Value := #[.int .i64 (blkZ x), .int .i64 (cntZ x)]
abbrev rareV (x : Nat) : Value := .agg (rareC x)
def HK : Kind Nat := ⟨58, 2, 16, fun x => [.int .i64 (blkZ x), .int .i64 (cntZ x)], fun _ => rfl, fun x u hu => by
  simp only [List.mem_cons, List.not_mem_nil, or_false] at hu
  rcases hu with rfl | rfl <;> rfl, by decide⟩
theorem rare_info : (Try.prog.info? 58).map (fun i => (i.zero, i.size, i.bytes)) = some (some (.agg #[.int .i64 0, .int .i64 0]), 2, 16) := by kernel_rfl
def kth (xs : List Nat) (k : Nat) : Nat := xs.getD k 0
theorem kth_get (xs : List Nat) (k : Nat) (h : k < xs.length) : xs[k]? = some (kth xs k) := by
  unfold kth; rw [List.getD_eq_getElem?_getD, List.getElem?_eq_getElem h]; rfl
theorem rare_cells {w : World} {B : Nat} {xs : List Nat} {b o : Nat} (h : RowAt HK w B (some ⟨b, o, none⟩) xs) (k : Nat) (hk : k < xs.length) : w.cell? ⟨b, o + k * 2, none⟩ = some (.int .i64 (blkZ (kth xs k))) ∧ w.cell? ⟨b, o + k * 2 + 1, none⟩ = some (.int .i64 (cntZ (kth xs k))) := by
  have hc := (h.lt (by omega)).2 k (kth xs k) (kth_get xs k hk)
  exact ⟨hc 0 _ rfl, hc 1 _ rfl⟩
theorem less_key (x y : Nat) : (orI (cmpI (cntZ x) (cntZ y)) (cmpI (blkZ x) (blkZ y)) < 0) ↔ x < y := by
  unfold orI cmpI cntZ blkZ
  split <;> split <;> (try split) <;> (try split) <;> omega

theorem two_new (W : World) (a b : Int) : IntsAt (W.alloc (.cells #[.int .i64 a, .int .i64 b] 3)) (W.alloc (.cells #[.int .i64 a, .int .i64 b] 3)).heap.size (some ⟨W.heap.size, 0, none⟩) [a, b] := fun _ => by
  have hb := Blk.new W 3 #[.int .i64 a, .int .i64 b]
  refine ⟨W.heap.size, 0, rfl, by simp, fun k hk => ?_⟩
  rw [Nat.zero_add, hb.cell k]
  rcases k with _ | _ | k
  · rfl
  · rfl
  · simp at hk; omega
theorem two_newD (W : World) (a b : Int) : IntsAt (W.alloc (.cells #[.int .i64 a, .int .i64 b] 3)).drew (W.alloc (.cells #[.int .i64 a, .int .i64 b] 3)).drew.heap.size (some ⟨W.heap.size, 0, none⟩) [a, b] := two_new W a b
theorem two_blk (W : World) (t : TypeId) (a b : Array Value) : Blk ((W.alloc (.cells a t)).alloc (.cells b t)).drew W.heap.size t a ∧ Blk ((W.alloc (.cells a t)).alloc (.cells b t)).drew (W.heap.size + 1) t b ∧ Below W.heap.size W ((W.alloc (.cells a t)).alloc (.cells b t)).drew := by
  have h := Blk.new (W.alloc (.cells a t)) t b
  rw [World.size_alloc] at h
  exact ⟨(Blk.new W t a).alloc _, h, below_drew (((Below.refl _ _).alloc (Nat.le_refl _) _).alloc (by simp) _)⟩
theorem less_key_dec (x y : Nat) : decide (orI (cmpI (cntZ x) (cntZ y)) (cmpI (blkZ x) (blkZ y)) < 0) = decide (x < y) := by
  rw [decide_eq_decide]; exact less_key x y

set_option maxHeartbeats 1000000 in
theorem hlen_any (A : Option Addr) (n cap : Nat) (w : World) : Calls Try.prog 38 #[.slice A n cap] w fun e w' => e = .returned (.int .i64 (n : Int)) ∧ w' = w := by
  go_enter Try.func38, Try.ntmps38
  go_wp2
  go_ret
  exact ⟨rfl, rfl⟩
set_option maxHeartbeats 3000000 in
set_option maxRecDepth 100000 in
theorem less_any (b o cap n : Nat) (xs : List Nat) (i j : Nat) (w : World) (hR : RowAt HK w w.heap.size (some ⟨b, o, none⟩) xs) (hn : xs.length = n) (hi : i < n) (hj : j < n) :
    Calls Try.prog 66 #[.slice (some ⟨b, o, none⟩) n cap, .int .i64 (i : Int), .int .i64 (j : Int)] w fun e w' => e = .returned (.bool (decide (kth xs i < kth xs j))) ∧ Below w.heap.size w w' := by
  obtain ⟨i0, i1⟩ := rare_cells hR i (by omega)
  obtain ⟨j0, j1⟩ := rare_cells hR j (by omega)
  have hb : b < w.heap.size := (hR.lt (by omega)).1
  have hii : (i : Int) < (n : Int) := by omega
  have hjj : (j : Int) < (n : Int) := by omega
  obtain ⟨x, HX⟩ : ∃ x, Hid (kth xs i = x) := ⟨_, rfl⟩
  obtain ⟨y, HY⟩ : ∃ y, Hid (kth xs j = y) := ⟨_, rfl⟩
  rw [HX.out] at i0 i1 ⊢
  rw [HY.out] at j0 j1 ⊢
  clear hR hn
  go_enter Try.func66, Try.ntmps66
  go_upto_region 2 with fail
  go_cut [7, 8] (fun s7 s8 wx => ∃ p q : Nat, s7 = .pointer (some ⟨p, 0, none⟩) ∧ s8 = .pointer (some ⟨q, 0, none⟩) ∧ Hid (Blk wx p 58 (rareC x)) ∧ Hid (Blk wx q 58 (rareC y)) ∧ Hid (Below w.heap.size w wx))
  case first =>
    go_region
    all_goals (go_wp2_with fail; go_meet)
    · have h := two_blk w 58 (rareC x) (rareC y)
      exact ⟨_, _, rfl, rfl, h.1, h.2.1, h.2.2⟩
    · have h := two_blk w 58 (rareC y) (rareC x)
      exact ⟨_, _, rfl, rfl, h.2.1, h.1, h.2.2⟩
  case rest =>
  obtain ⟨p, q, rfl, rfl, HP, HQ, HB⟩ := hcut
  clear i0 i1 j0 j1
  have hzp := HP.out.lt
  have hzq := HQ.out.lt
  have p0 : wc.cell? ⟨p, 0, none⟩ = some (.int .i64 (blkZ x)) := HP.out.cell 0
  have p1 : wc.cell? ⟨p, 1, none⟩ = some (.int .i64 (cntZ x)) := HP.out.cell 1
  have q0 : wc.cell? ⟨q, 0, none⟩ = some (.int .i64 (blkZ y)) := HQ.out.cell 0
  have q1 : wc.cell? ⟨q, 1, none⟩ = some (.int .i64 (cntZ y)) := HQ.out.cell 1
  go_wp2_with fail
  go_region_held3 (fun w' => w'.cell? ⟨p, 0, none⟩ = some (.int .i64 (blkZ x)) ∧ w'.cell? ⟨p, 1, none⟩ = some (.int .i64 (cntZ x)) ∧ w'.cell? ⟨q, 0, none⟩ = some (.int .i64 (blkZ y)) ∧ w'.cell? ⟨q, 1, none⟩ = some (.int .i64 (cntZ y))) (go_keep)
    (first
      | (go_at_call 71; (with_reducible refine (compare_any _ _ _).mono ?_); rintro e w' ⟨rfl, rfl⟩)
      | (go_at_call 70; (with_reducible refine (or_any _ _ _ _ _ (two_newD _ _ _)).mono ?_); rintro e w' ⟨rfl, rfl⟩))
  all_goals (go_wp2; go_ret)
  all_goals exact ⟨by rw [← less_key_dec]; rfl, below_drew (HB.out.alloc HB.out.size _)⟩

end Go.Proofs.Ytgjnhfciphiciaa
