/- Contracts of the exact laws' helpers over slices of integers: toIntS copies, markIntS counts up through a slice of the call's own, heldIntS looks whether it still holds that. Conditions: the slices lie in memory and have at most 2^20 elements. -/
import Derived.Test.YtgpmodidpdjhkaaEqInts
import Derived.Test.YtgpmodidpdjhkaaZeros
import Derived.Test.YtgpmodidpdjhkaaIn
import Derived.Deep.OwnRows
namespace Go.Proofs.Ytgpmodidpdjhkaa
open Go.RowKit
set_option linter.unusedVariables false

theorem madeCells_vals (n : Nat) : madeCells #[Value.int .i64 0] n = (vals (zerosZ n)).toArray := by
  apply Array.ext'
  rw [toList_madeCells_one]
  simp [vals, zerosZ]
theorem own_made (w : World) (n : Nat) (hn : n ≤ 1048576) : OwnInts (w.alloc (.cells (vals (zerosZ n)).toArray 3)) w.heap.size (some ⟨w.heap.size, 0, none⟩) n (zerosZ n) := by
  have := World.ownsRow_lit (e := 3) (size := 1) w (vals (zerosZ n)).toArray n (Nat.le_refl _) (by unfold maxLen; omega) (by rw [List.size_toArray, vals_length, zerosZ_length]; omega)
  unfold OwnInts
  rw [zerosZ_length]
  exact this
theorem own_stored {w : World} {base b cap : Nat} {zs : List Int} (h : OwnInts w base (some ⟨b, 0, none⟩) cap zs) (j : Nat) (x : Int) : OwnInts (w.setCell ⟨b, j, none⟩ (.int .i64 x)) base (some ⟨b, 0, none⟩) cap (zs.set j x) ∧ w.grownBy (w.setCell ⟨b, j, none⟩ (.int .i64 x)) (some b) := by
  have := World.ownsRow.stored h j (.int .i64 x)
  refine ⟨?_, this.2⟩
  unfold OwnInts
  rw [List.length_set]
  have e : vals (zs.set j x) = (vals zs).set j (i64 x) := by unfold vals; rw [List.map_set]
  rw [e]
  exact this.1
theorem own_cell {w : World} {base b cap : Nat} {zs : List Int} (h : OwnInts w base (some ⟨b, 0, none⟩) cap zs) (j : Nat) (hj : j < zs.length) : w.cell? ⟨b, j, none⟩ = some (.int .i64 (nth zs j)) ∧ w.frozen? ⟨b, j, none⟩ = false := by
  have h1 := (h.ints.lt (by omega)).2 j hj
  rw [Nat.zero_add] at h1
  exact ⟨h1, World.ownsRow.frozenAt h j⟩
theorem copy_step (zs : List Int) (k n : Nat) (hn : zs.length = n) (hk : k < n) : (zs.take k ++ zerosZ (n - k)).set k (nth zs k) = zs.take (k + 1) ++ zerosZ (n - (k + 1)) := by
  have hl : (zs.take k).length = k := by rw [List.length_take]; omega
  have e : n - k = (n - (k + 1)) + 1 := by omega
  have hz : zerosZ (n - k) = 0 :: zerosZ (n - (k + 1)) := by rw [e]; rfl
  have ht : zs.take (k + 1) = zs.take k ++ [nth zs k] := by
    rw [List.take_succ_eq_append_getElem (by omega), nth, List.getD_eq_getElem?_getD, List.getElem?_eq_getElem (by omega)]; rfl
  rw [hz, ht, List.set_append_right _ _ (by omega), hl, Nat.sub_self, List.append_assoc]
  rfl
theorem nth_zeros (zs : List Int) (k n : Nat) (hn : zs.length = n) (hk : k < n) : (zs.take k ++ zerosZ (n - k)).length = n := by rw [List.length_append, List.length_take, zerosZ_length]; omega

def Copied (w : World) (zs : List Int) (e : Ending) (w' : World) : Prop :=
  e = .returned (.slice (some ⟨w.heap.size, 0, none⟩) zs.length zs.length) ∧ OwnInts w' w.heap.size (some ⟨w.heap.size, 0, none⟩) zs.length zs ∧ Below w.heap.size w w'



/-- The numbers from j on. -/
def marks : Nat → Nat → List Int
  | _, 0 => []
  | j, n + 1 => (j : Int) :: marks (j + 1) n
theorem marks_length : ∀ j n, (marks j n).length = n := by
  intro j n
  induction n generalizing j with
  | zero => rfl
  | succ n ih => show (marks (j + 1) n).length + 1 = n + 1; rw [ih]
theorem marks_nth : ∀ j n k, k < n → nth (marks j n) k = ((j + k : Nat) : Int) := by
  intro j n
  induction n generalizing j with
  | zero => intro k h; omega
  | succ n ih =>
    intro k h
    cases k with
    | zero => rfl
    | succ k =>
      have := ih (j + 1) k (by omega)
      show nth (marks (j + 1) n) k = _
      rw [this, Nat.add_assoc, Nat.add_comm 1 k]
theorem marks_snoc : ∀ j k, marks j (k + 1) = marks j k ++ [((j + k : Nat) : Int)] := by
  intro j k
  induction k generalizing j with
  | zero => rfl
  | succ k ih =>
    show (j : Int) :: marks (j + 1) (k + 1) = (j : Int) :: marks (j + 1) k ++ [_]
    rw [ih (j + 1), Nat.add_assoc, Nat.add_comm 1 k]
    rfl
theorem marks_step (zs : List Int) (j k : Nat) (hk : k < zs.length) : (marks j k ++ zs.drop k).set k ((j + k : Nat) : Int) = marks j (k + 1) ++ zs.drop (k + 1) := by
  have hd := List.drop_eq_getElem_cons hk
  rw [marks_snoc, List.set_append_right _ _ (by rw [marks_length]; omega), marks_length, Nat.sub_self, hd, List.append_assoc]
  rfl

def Marked (w : World) (base : Nat) (A : Option Addr) (cap n : Nat) (e : Ending) (w' : World) : Prop :=
  e = .returned (.int .i64 ((1 + n : Nat) : Int)) ∧ OwnInts w' base A cap (marks 1 n) ∧ (∀ b, A = some ⟨b, 0, none⟩ → w.grownBy w' (some b)) ∧ (A = none → w = w')

set_option maxHeartbeats 2000000 in
theorem mark_some (base b cap : Nat) (zs : List Int) (w : World) (hO : OwnInts w base (some ⟨b, 0, none⟩) cap zs) (hm : zs.length ≤ 1048576) :
    Calls Try.prog 32 #[.slice (some ⟨b, 0, none⟩) zs.length cap, .int .i64 1] w (Marked w base (some ⟨b, 0, none⟩) cap zs.length) := by
  have HO := Lib.hid hO
  obtain ⟨n, HN⟩ : ∃ n, Hid (zs.length = n) := ⟨_, rfl⟩
  rw [HN.out] at hm ⊢
  clear hO
  go_enter Try.func32, Try.ntmps32
  go_wp2
  go_loopw [1, 5] (fun x i w' => ∃ k : Nat, k ≤ n ∧ x = .int .i64 ((1 + k : Nat) : Int) ∧ i = .int .i64 k ∧ Hid (OwnInts w' base (some ⟨b, 0, none⟩) cap (marks 1 k ++ zs.drop k)) ∧ Hid (w.grownBy w' (some b))) (fun _ i _ => n - (intOf i).toNat)
  case atStart => exact ⟨0, by omega, rfl, rfl, HO, World.grownBy.refl _ _⟩
  case round =>
    obtain ⟨k, hk, rfl, rfl, HO1, HG⟩ := hrel
    by_cases hlt : k < n
    · have hkz : k < zs.length := by rw [HN.out]; exact hlt
      have hlen : (marks 1 k ++ zs.drop k).length = n := by rw [List.length_append, marks_length, List.length_drop, HN.out]; omega
      obtain ⟨hcx, hfx⟩ := own_cell HO1.out k (by omega)
      have hki : (k : Int) < (n : Int) := by omega
      have hs := own_stored HO1.out k ((1 + k : Nat) : Int)
      rw [marks_step zs 1 k hkz] at hs
      have HS := Lib.hid hs.1
      have HGS : Hid (w.grownBy (wr.setCell ⟨b, k, none⟩ (.int .i64 ((1 + k : Nat) : Int))) (some b)) := World.grownBy.trans HG.out hs.2
      clear hkz hlen hs
      have hcast : ((1 + k : Nat) : Int) = 1 + (k : Int) := by omega
      rw [hcast] at HS HGS
      clear hcast
      go_wp2
      go_roundw
      case rel => exact ⟨k + 1, by omega, by go_num, by go_num, HS, HGS⟩
      case measure => simp [intOf]; omega
    · have hkn : k = n := by omega
      subst hkn
      have ho := HO1.out
      rw [List.drop_eq_nil_of_le (by rw [HN.out]; omega), List.append_nil] at ho
      have HO' := Lib.hid ho
      clear ho
      go_wp2
      go_ret
      exact ⟨ret_int (by simp), HO'.out, (fun b' e => by injection e with e; injection e with e _ _; subst e; exact HG.out), (fun e => by cases e)⟩

set_option maxHeartbeats 800000 in
theorem mark_any (base : Nat) (A : Option Addr) (cap : Nat) (zs : List Int) (w : World) (hO : OwnInts w base A cap zs) (hm : zs.length ≤ 1048576) :
    Calls Try.prog 32 #[.slice A zs.length cap, .int .i64 1] w (Marked w base A cap zs.length) := by
  rcases A with _ | ad
  · have h0 : zs = [] := by
      cases zs with
      | nil => rfl
      | cons z zs => obtain ⟨b, o, e, _⟩ := hO.ints (by simp); cases e
    subst h0
    have HO := Lib.hid hO
    clear hO
    go_enter Try.func32, Try.ntmps32
    go_wp2
    go_loop [1, 5] (fun x i => x = .int .i64 1 ∧ i = .int .i64 0) (fun _ _ => 0)
    case atStart => exact ⟨rfl, rfl⟩
    case round =>
      obtain ⟨rfl, rfl⟩ := hrel
      go_wp2
      go_ret
      exact ⟨rfl, HO.out, (fun b e => by cases e), fun _ => rfl⟩
  · have : ∃ b, ad = ⟨b, 0, none⟩ := by
      rcases hO.2 with ⟨hv, _⟩ | ⟨g, c, cur, hv, _⟩
      · injection hv with hA _ _; cases hA
      · injection hv with hA _ _; injection hA with hA; exact ⟨g, hA⟩
    obtain ⟨b, rfl⟩ := this
    exact mark_some base b cap zs w hO hm

set_option maxHeartbeats 2000000 in
theorem held_any (A : Option Addr) (cap n : Nat) (w : World) (hI : IntsAt w w.heap.size A (marks 1 n)) (hm : n ≤ 1048576) :
    Calls Try.prog 33 #[.slice A n cap, .int .i64 1] w fun e w' => e = .returned (.int .i64 ((1 + n : Nat) : Int)) ∧ w = w' := by
  have HI := Lib.hid hI
  clear hI
  go_enter Try.func33, Try.ntmps33
  go_wp2
  go_loop [1, 5] (fun x i => ∃ k : Nat, k ≤ n ∧ x = .int .i64 ((1 + k : Nat) : Int) ∧ i = .int .i64 k) (fun _ i => n - (intOf i).toNat)
  case atStart => exact ⟨0, by omega, rfl, rfl⟩
  case round =>
    obtain ⟨k, hk, rfl, rfl⟩ := hrel
    by_cases hlt : k < n
    · obtain ⟨b, o, rfl, hb, hc⟩ := HI.out (by rw [marks_length]; omega)
      have hck := hc k (by rw [marks_length]; exact hlt)
      rw [marks_nth 1 n k hlt] at hck
      have hki : (k : Int) < (n : Int) := by omega
      have hcast : ((1 + k : Nat) : Int) = 1 + (k : Int) := by omega
      rw [hcast] at hck
      have hnn : ((1 + (k : Int)) != (1 + (k : Int))) = false := by simp
      clear hc hcast
      go_wp2
      go_round
      case rel => exact ⟨k + 1, by omega, by go_num, by go_num⟩
      case measure => simp [intOf]; omega
    · have hkn : k = n := by omega
      subst hkn
      go_wp2
      go_ret
      exact ⟨ret_int (by simp), rfl⟩

/-- From what a row's reading tells of a slice of integers (IsRow) to what my contracts ask of it. -/
theorem ints_of_row {w : World} {a : Option Addr} {len cap : Nat} {zs : List Int} (h : IsRow .i64 w a len cap zs) : IntsAt w w.heap.size a (zs.take len) ∧ (zs.take len).length = len ∧ len ≤ maxLen := by
  rcases h with ⟨rfl, rfl, rfl, rfl⟩ | ⟨x, rfl, hl, hm, hz, hc, hw⟩
  · exact ⟨IntsAt.nil, rfl, by simp [maxLen]⟩
  · have hlen : (zs.take len).length = len := by rw [List.length_take]; omega
    refine ⟨fun hn => ?_, hlen, Nat.le_trans hl hm⟩
    rw [hlen] at hn
    obtain ⟨b, o, sp⟩ := x
    have hs := World.cell?_spot (hc 0 (by omega))
    have hs0 : sp = none := by simpa [Addr.add] using hs
    subst hs0
    have hcell : ∀ k, k < zs.length → w.cell? ⟨b, o + k, none⟩ = some (.int .i64 (zs.getD k 0)) := fun k hk => by
      have := hc k hk
      rw [Addr.add_lit] at this
      exact this
    have h0 := hcell 0 (by omega)
    refine ⟨b, o, rfl, World.block_lt_of_cell? w _ h0, fun k hk => ?_⟩
    rw [hlen] at hk
    rw [hcell k (by omega)]
    unfold nth
    rw [List.getD_eq_getElem?_getD, List.getD_eq_getElem?_getD, List.getElem?_take_of_lt hk]

end Go.Proofs.Ytgpmodidpdjhkaa
