/- Contracts of the exact laws' helpers over slices of bools: toBoolS copies, markBoolS writes a pattern through a slice of the call's own, heldBoolS looks whether it still holds that. Conditions: the slices lie in memory and have at most 2^20 elements. -/
import Derived.Test.YtgpmodidpdjhkaaEqBools
import Derived.Test.YtgpmodidpdjhkaaIn
import Derived.Deep.OwnRows
namespace Go.Proofs.Ytgpmodidpdjhkaa
open Go.RowKit
set_option linter.unusedVariables false

def noB (k : Nat) : List Bool := List.replicate k false
theorem noB_length (k : Nat) : (noB k).length = k := List.length_replicate
theorem madeCells_bals (n : Nat) : madeCells #[Value.bool false] n = (bals (noB n)).toArray := by
  apply Array.ext'
  rw [toList_madeCells_one]
  simp [bals, noB]
theorem ownb_made (w : World) (n : Nat) (hn : n ≤ 1048576) : OwnBools (w.alloc (.cells (bals (noB n)).toArray 4)) w.heap.size (some ⟨w.heap.size, 0, none⟩) n (noB n) := by
  have := World.ownsRow_lit (e := 4) (size := 1) w (bals (noB n)).toArray n (Nat.le_refl _) (by unfold maxLen; omega) (by rw [List.size_toArray, bals_length, noB_length]; omega)
  unfold OwnBools
  rw [noB_length]
  exact this
theorem ownb_stored {w : World} {base b cap : Nat} {zs : List Bool} (h : OwnBools w base (some ⟨b, 0, none⟩) cap zs) (j : Nat) (x : Bool) : OwnBools (w.setCell ⟨b, j, none⟩ (.bool x)) base (some ⟨b, 0, none⟩) cap (zs.set j x) ∧ w.grownBy (w.setCell ⟨b, j, none⟩ (.bool x)) (some b) := by
  have := World.ownsRow.stored h j (.bool x)
  refine ⟨?_, this.2⟩
  unfold OwnBools
  rw [List.length_set]
  have e : bals (zs.set j x) = (bals zs).set j (vb x) := by unfold bals; rw [List.map_set]
  rw [e]
  exact this.1
theorem ownb_cell {w : World} {base b cap : Nat} {zs : List Bool} (h : OwnBools w base (some ⟨b, 0, none⟩) cap zs) (j : Nat) (hj : j < zs.length) : w.cell? ⟨b, j, none⟩ = some (.bool (bth zs j)) ∧ w.frozen? ⟨b, j, none⟩ = false := by
  have h1 := (h.ints.lt (by omega)).2 j hj
  rw [Nat.zero_add] at h1
  exact ⟨h1, World.ownsRow.frozenAt h j⟩
theorem copyb_step (zs : List Bool) (k n : Nat) (hn : zs.length = n) (hk : k < n) : (zs.take k ++ noB (n - k)).set k (bth zs k) = zs.take (k + 1) ++ noB (n - (k + 1)) := by
  have hl : (zs.take k).length = k := by rw [List.length_take]; omega
  have e : n - k = (n - (k + 1)) + 1 := by omega
  have hz : noB (n - k) = false :: noB (n - (k + 1)) := by rw [e]; rfl
  have ht : zs.take (k + 1) = zs.take k ++ [bth zs k] := by
    rw [List.take_succ_eq_append_getElem (by omega), bth, List.getD_eq_getElem?_getD, List.getElem?_eq_getElem (by omega)]; rfl
  rw [hz, ht, List.set_append_right _ _ (by omega), hl, Nat.sub_self, List.append_assoc]
  rfl
theorem bth_noB (zs : List Bool) (k n : Nat) (hn : zs.length = n) (hk : k < n) : (zs.take k ++ noB (n - k)).length = n := by rw [List.length_append, List.length_take, noB_length]; omega

def CopiedB (w : World) (zs : List Bool) (e : Ending) (w' : World) : Prop :=
  e = .returned (.slice (some ⟨w.heap.size, 0, none⟩) zs.length zs.length) ∧ OwnBools w' w.heap.size (some ⟨w.heap.size, 0, none⟩) zs.length zs ∧ Below w.heap.size w w'

set_option maxHeartbeats 2000000 in
theorem toBools_any (A : Option Addr) (cap : Nat) (zs : List Bool) (w : World) (hI : BoolsAt w w.heap.size A zs) (hm : zs.length ≤ 1048576) :
    Calls Try.prog 81 #[.slice A zs.length cap] w (CopiedB w zs) := by
  have HI := Lib.hid hI
  obtain ⟨n, HN⟩ : ∃ n, Hid (zs.length = n) := ⟨_, rfl⟩
  rw [HN.out] at hm ⊢
  clear hI
  have hmk := run_make_row' (P := Try.prog) 27 4 (.bool false) 1 Try.underlying27 bool_info rfl .i64 .i64 n (by omega) (by omega)
  simp only [madeCells_bals] at hmk
  go_enter Try.func81, Try.ntmps81
  go_wp2
  clear hmk
  go_loopw [4] (fun i w' => ∃ k : Nat, k ≤ n ∧ i = .int .i64 k ∧ Hid (OwnBools w' w.heap.size (some ⟨w.heap.size, 0, none⟩) n (zs.take k ++ noB (n - k))) ∧ Hid (Below w.heap.size w w')) (fun i _ => n - (intOf i).toNat)
  case atStart => exact ⟨0, by omega, rfl, (by show OwnBools _ _ _ _ _; have := ownb_made w n hm; simpa using this), (Below.refl _ _).alloc (Nat.le_refl _) _⟩
  case round =>
    obtain ⟨k, hk, rfl, HO, HB⟩ := hrel
    by_cases hlt : k < n
    · have hkz : k < zs.length := by rw [HN.out]; exact hlt
      obtain ⟨b, o, rfl, hb, hc⟩ := (HI.out.below HB.out (Nat.le_refl _)) (by omega)
      have hck := hc k hkz
      have hlen := bth_noB zs k n HN.out hlt
      obtain ⟨hcx, hfx⟩ := ownb_cell HO.out k (by omega)
      have hki : (k : Int) < (n : Int) := by omega
      have hs := ownb_stored HO.out k (bth zs k)
      rw [copyb_step zs k n HN.out hlt] at hs
      have HS := Lib.hid hs.1
      have HBS : Hid (Below w.heap.size w (wr.setCell ⟨w.heap.size, k, none⟩ (.bool (bth zs k)))) := HB.out.setCell (p := ⟨w.heap.size, k, none⟩) (Nat.le_refl _) _
      have hne : b ≠ w.heap.size := by omega
      clear hc hkz hlen hs
      go_wp2
      go_roundw
      case rel => exact ⟨k + 1, by omega, by go_num, HS, HBS⟩
      case measure => simp [intOf]; omega
    · have hkn : k = n := by omega
      subst hkn
      have ho := HO.out
      rw [Nat.sub_self, List.take_of_length_le (by rw [HN.out]; omega)] at ho
      have HO' : Hid (OwnBools wr w.heap.size (some ⟨w.heap.size, 0, none⟩) k zs) := by show OwnBools _ _ _ _ _; simpa [noB] using ho
      clear ho
      go_wp2
      go_ret
      refine ⟨?_, ?_, HB.out⟩
      · rw [HN.out]; rfl
      · rw [HN.out]; exact HO'.out

/-- The pattern that markBoolS writes, from j on. -/
def third (j : Int) : Bool := j % 3 == 0
theorem third_eq (j : Int) : (j % 3 == 0) = third j := rfl
def bmarks : Nat → Nat → List Bool
  | _, 0 => []
  | j, n + 1 => third (j : Int) :: bmarks (j + 1) n
theorem bmarks_length : ∀ j n, (bmarks j n).length = n := by
  intro j n
  induction n generalizing j with
  | zero => rfl
  | succ n ih => show (bmarks (j + 1) n).length + 1 = n + 1; rw [ih]
theorem bmarks_bth : ∀ j n k, k < n → bth (bmarks j n) k = third ((j + k : Nat) : Int) := by
  intro j n
  induction n generalizing j with
  | zero => intro k h; omega
  | succ n ih =>
    intro k h
    cases k with
    | zero => rfl
    | succ k =>
      have := ih (j + 1) k (by omega)
      show bth (bmarks (j + 1) n) k = _
      rw [this, Nat.add_assoc, Nat.add_comm 1 k]
theorem bmarks_snoc : ∀ j k, bmarks j (k + 1) = bmarks j k ++ [third ((j + k : Nat) : Int)] := by
  intro j k
  induction k generalizing j with
  | zero => rfl
  | succ k ih =>
    show third (j : Int) :: bmarks (j + 1) (k + 1) = third (j : Int) :: bmarks (j + 1) k ++ [_]
    rw [ih (j + 1), Nat.add_assoc, Nat.add_comm 1 k]
    rfl
theorem bmarks_step (zs : List Bool) (j k : Nat) (hk : k < zs.length) : (bmarks j k ++ zs.drop k).set k (third ((j + k : Nat) : Int)) = bmarks j (k + 1) ++ zs.drop (k + 1) := by
  have hd := List.drop_eq_getElem_cons hk
  rw [bmarks_snoc, List.set_append_right _ _ (by rw [bmarks_length]; omega), bmarks_length, Nat.sub_self, hd, List.append_assoc]
  rfl

def MarkedB (w : World) (base : Nat) (A : Option Addr) (cap : Nat) (k0 n : Nat) (e : Ending) (w' : World) : Prop :=
  e = .returned (.int .i64 ((k0 + n : Nat) : Int)) ∧ OwnBools w' base A cap (bmarks k0 n) ∧ (∀ b, A = some ⟨b, 0, none⟩ → w.grownBy w' (some b)) ∧ (A = none → w = w')

set_option maxHeartbeats 2000000 in
theorem markb_some (base b cap k0 : Nat) (zs : List Bool) (w : World) (hO : OwnBools w base (some ⟨b, 0, none⟩) cap zs) (hm : zs.length ≤ 1048576) (hk0 : k0 ≤ 2000000) :
    Calls Try.prog 74 #[.slice (some ⟨b, 0, none⟩) zs.length cap, .int .i64 (k0 : Int)] w (MarkedB w base (some ⟨b, 0, none⟩) cap k0 zs.length) := by
  have HO := Lib.hid hO
  obtain ⟨n, HN⟩ : ∃ n, Hid (zs.length = n) := ⟨_, rfl⟩
  rw [HN.out] at hm ⊢
  clear hO
  go_enter Try.func74, Try.ntmps74
  go_wp2
  go_loopw [1, 5] (fun x i w' => ∃ k : Nat, k ≤ n ∧ x = .int .i64 ((k0 + k : Nat) : Int) ∧ i = .int .i64 k ∧ Hid (OwnBools w' base (some ⟨b, 0, none⟩) cap (bmarks k0 k ++ zs.drop k)) ∧ Hid (w.grownBy w' (some b))) (fun _ i _ => n - (intOf i).toNat)
  case atStart => exact ⟨0, by omega, rfl, rfl, HO, World.grownBy.refl _ _⟩
  case round =>
    obtain ⟨k, hk, rfl, rfl, HO1, HG⟩ := hrel
    by_cases hlt : k < n
    · have hkz : k < zs.length := by rw [HN.out]; exact hlt
      have hlen : (bmarks k0 k ++ zs.drop k).length = n := by rw [List.length_append, bmarks_length, List.length_drop, HN.out]; omega
      obtain ⟨hcx, hfx⟩ := ownb_cell HO1.out k (by omega)
      have hki : (k : Int) < (n : Int) := by omega
      have hs := ownb_stored HO1.out k (third ((k0 + k : Nat) : Int))
      rw [bmarks_step zs k0 k hkz] at hs
      have HS := Lib.hid hs.1
      have HGS : Hid (w.grownBy (wr.setCell ⟨b, k, none⟩ (.bool (third ((k0 + k : Nat) : Int)))) (some b)) := World.grownBy.trans HG.out hs.2
      clear hkz hlen hs
      have hcast : ((k0 + k : Nat) : Int) = (k0 : Int) + (k : Int) := by omega
      rw [hcast] at HS HGS
      clear hcast
      unfold third at HS HGS
      go_wp2
      go_roundw
      case rel => exact ⟨k + 1, by omega, by go_num, by go_num, HS, HGS⟩
      case measure => simp [intOf]; omega
    · have hkn : k = n := by omega
      subst hkn
      have ho := HO1.out
      rw [List.drop_eq_nil_of_le (by rw [HN.out]; omega), List.append_nil] at ho
      have HO' := Lib.hid ho
      clear ho
      go_wp2
      go_ret
      exact ⟨ret_int (by simp), HO'.out, (fun b' e => by injection e with e; injection e with e _ _; subst e; exact HG.out), (fun e => by cases e)⟩

set_option maxHeartbeats 800000 in
theorem markb_any (base : Nat) (A : Option Addr) (cap k0 : Nat) (zs : List Bool) (w : World) (hO : OwnBools w base A cap zs) (hm : zs.length ≤ 1048576) (hk0 : k0 ≤ 2000000) :
    Calls Try.prog 74 #[.slice A zs.length cap, .int .i64 (k0 : Int)] w (MarkedB w base A cap k0 zs.length) := by
  rcases A with _ | ad
  · have h0 : zs = [] := by
      cases zs with
      | nil => rfl
      | cons z zs => obtain ⟨b, o, e, _⟩ := hO.ints (by simp); cases e
    subst h0
    have HO := Lib.hid hO
    clear hO
    go_enter Try.func74, Try.ntmps74
    go_wp2
    go_loop [1, 5] (fun x i => x = .int .i64 (k0 : Int) ∧ i = .int .i64 0) (fun _ _ => 0)
    case atStart => exact ⟨rfl, rfl⟩
    case round =>
      obtain ⟨rfl, rfl⟩ := hrel
      go_wp2
      go_ret
      exact ⟨rfl, HO.out, (fun b e => by cases e), fun _ => rfl⟩
  · have : ∃ b, ad = ⟨b, 0, none⟩ := by
      rcases hO.2 with ⟨hv, _⟩ | ⟨g, c, cur, hv, _⟩
      · injection hv with hA _ _; cases hA
      · injection hv with hA _ _; injection hA with hA; exact ⟨g, hA⟩
    obtain ⟨b, rfl⟩ := this
    exact markb_some base b cap k0 zs w hO hm hk0

set_option maxHeartbeats 2000000 in
theorem heldb_any (A : Option Addr) (cap n : Nat) (w : World) (hI : BoolsAt w w.heap.size A (bmarks 1 n)) (hm : n ≤ 1048576) :
    Calls Try.prog 76 #[.slice A n cap, .int .i64 1] w fun e w' => e = .returned (.int .i64 ((1 + n : Nat) : Int)) ∧ ∃ q, w' = w.drewN q := by
  have HI := Lib.hid hI
  clear hI
  go_enter Try.func76, Try.ntmps76
  go_wp2
  go_loopw [1, 5] (fun x i w' => ∃ k : Nat, k ≤ n ∧ x = .int .i64 ((1 + k : Nat) : Int) ∧ i = .int .i64 k ∧ ∃ q, w' = w.drewN q) (fun _ i _ => n - (intOf i).toNat)
  case atStart => exact ⟨0, by omega, rfl, rfl, 0, rfl⟩
  case round =>
    obtain ⟨k, hk, rfl, rfl, q, rfl⟩ := hrel
    by_cases hlt : k < n
    · obtain ⟨b, o, rfl, hb, hc⟩ := HI.out (by rw [bmarks_length]; omega)
      have hck := hc k (by rw [bmarks_length]; exact hlt)
      rw [bmarks_bth 1 n k hlt] at hck
      have hki : (k : Int) < (n : Int) := by omega
      have hcast : ((1 + k : Nat) : Int) = 1 + (k : Int) := by omega
      rw [hcast] at hck
      unfold third at hck
      clear hc hcast
      go_wp2
      go_roundw
      case rel => exact ⟨k + 1, by omega, by go_num, by go_num, _, rfl⟩
      case measure => simp [intOf]; omega
    · have hkn : k = n := by omega
      subst hkn
      go_wp2
      go_ret
      exact ⟨ret_int (by simp), _, rfl⟩

/-- A slice of bools that came in: nil, or a row of cap cells with the bools zs. -/
def IsRowB (w : World) (a : Option Addr) (len cap : Nat) (zs : List Bool) : Prop :=
  (a = none ∧ len = 0 ∧ cap = 0 ∧ zs = []) ∨
  ∃ x, a = some x ∧ len ≤ cap ∧ cap ≤ maxLen ∧ zs.length = cap ∧ (∀ i, i < zs.length → w.cell? (x.add i) = some (.bool (zs.getD i false)))

theorem rowB_cell {w : World} {x : Addr} {c : Nat} {B : Nat → Bool} (hc : ∀ i, i < c → w.cell? (x.add i) = some (.bool (B i))) (i : Nat) (hi : i < ((List.range c).map B).length) : w.cell? (x.add i) = some (.bool (((List.range c).map B).getD i false)) := by
  have h : i < c := by simpa using hi
  rw [hc i h, List.getD_eq_getElem?_getD, List.getElem?_map, List.getElem?_range h]
  rfl

theorem bools_of_row {w : World} {a : Option Addr} {len cap : Nat} {zs : List Bool} (h : IsRowB w a len cap zs) : BoolsAt w w.heap.size a (zs.take len) ∧ (zs.take len).length = len ∧ len ≤ maxLen := by
  rcases h with ⟨rfl, rfl, rfl, rfl⟩ | ⟨x, rfl, hl, hm, hz, hc⟩
  · exact ⟨BoolsAt.nil, rfl, by simp [maxLen]⟩
  · have hlen : (zs.take len).length = len := by rw [List.length_take]; omega
    refine ⟨fun hn => ?_, hlen, Nat.le_trans hl hm⟩
    rw [hlen] at hn
    obtain ⟨b, o, sp⟩ := x
    have hs := World.cell?_spot (hc 0 (by omega))
    have hs0 : sp = none := by simpa [Addr.add] using hs
    subst hs0
    have hcell : ∀ k, k < zs.length → w.cell? ⟨b, o + k, none⟩ = some (.bool (zs.getD k false)) := fun k hk => by
      have := hc k hk
      rw [Addr.add_lit] at this
      exact this
    have h0 := hcell 0 (by omega)
    refine ⟨b, o, rfl, World.block_lt_of_cell? w _ h0, fun k hk => ?_⟩
    rw [hlen] at hk
    rw [hcell k (by omega)]
    unfold bth
    rw [List.getD_eq_getElem?_getD, List.getD_eq_getElem?_getD, List.getElem?_take_of_lt hk]

end Go.Proofs.Ytgpmodidpdjhkaa
