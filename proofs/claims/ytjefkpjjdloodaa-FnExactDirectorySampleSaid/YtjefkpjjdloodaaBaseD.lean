/- Words for memory, of bools: a slice of bools that reads as a list, a slice of the call's own that holds bools, how both are kept, and how bools are appended. Conditions: the lengths stay below 2^31. Contract of the laws' function eqBoolS: it reports whether two slices read as the same list; it changes nothing. Condition: both lie in memory. Contracts of the exact laws' helpers over slices of integers: toIntS copies, markIntS counts up through a slice of the call's own, heldIntS looks whether it still holds that. Conditions: the slices lie in memory and have at most 2^20 elements. Contracts of the exact laws' helpers over slices of bools: toBoolS copies, markBoolS writes a pattern through a slice of the call's own, heldBoolS looks whether it still holds that. Conditions: the slices lie in memory and have at most 2^20 elements. How rows of the call's own, of integers and of bools, are kept while another row is written: for the walks of exact laws. No conditions. -/
import Derived.Test.YtjefkpjjdloodaaBaseA
import Derived.Deep.QuietTactic
import Derived.BigQuiet
import Derived.Deep.OwnRows
namespace Go.Proofs.Ytjefkpjjdloodaa
open Go.RowKit
set_option linter.unusedVariables false

abbrev vb (b : Bool) : Value := .bool b
/-- The k-th number. -/
def bth (zs : List Bool) (k : Nat) : Bool := zs.getD k false
theorem bth_eq (zs : List Bool) (k : Nat) : bth zs k = zs.getD k false := rfl
def bals (zs : List Bool) : List Value := zs.map vb
theorem bals_length (zs : List Bool) : (bals zs).length = zs.length := List.length_map _
theorem bals_append (a b : List Bool) : bals (a ++ b) = bals a ++ bals b := List.map_append
theorem bals_one (zs : List Bool) : ∀ u ∈ bals zs, u.oneCell' = true := by
  intro u hu
  obtain ⟨z, _, rfl⟩ := List.mem_map.1 hu
  rfl
theorem bals_get (zs : List Bool) (k : Nat) (h : k < zs.length) : (bals zs)[k]? = some (vb (bth zs k)) := by
  unfold bals bth
  rw [List.getElem?_map, List.getElem?_eq_getElem h, List.getD_eq_getElem?_getD, List.getElem?_eq_getElem h]
  rfl

/-- The slice at A begins with the numbers zs; its cells lie below block B. -/
def BoolsAt (w : World) (B : Nat) (A : Option Addr) (zs : List Bool) : Prop :=
  0 < zs.length → ∃ b o, A = some ⟨b, o, none⟩ ∧ b < B ∧ ∀ k, k < zs.length → w.cell? ⟨b, o + k, none⟩ = some (.bool (bth zs k))

section
variable {w w' : World} {B B' : Nat} {A : Option Addr} {zs : List Bool}
theorem BoolsAt.nil : BoolsAt w B A [] := fun h => absurd h (by simp)
theorem BoolsAt.at_ (h : BoolsAt w B A zs) (hn : 0 < zs.length) : ∃ b o, A = some ⟨b, o, none⟩ ∧ b < B ∧ ∀ k, k < zs.length → w.cell? ⟨b, o + k, none⟩ = some (.bool (bth zs k)) := h hn
theorem BoolsAt.keep (h : BoolsAt w B A zs) (hk : ∀ p : Addr, p.block < B → w'.cell? p = w.cell? p) : BoolsAt w' B A zs := fun hn => by
  obtain ⟨b, o, e, hb, hc⟩ := h hn
  exact ⟨b, o, e, hb, fun k hk' => (hk _ hb).trans (hc k hk')⟩
theorem BoolsAt.more (h : BoolsAt w B A zs) (hB : B ≤ B') : BoolsAt w B' A zs := fun hn => by
  obtain ⟨b, o, e, hb, hc⟩ := h hn
  exact ⟨b, o, e, by omega, hc⟩
theorem BoolsAt.below {C : Nat} (h : BoolsAt w B A zs) (hb : Below C w w') (hC : B ≤ C) : BoolsAt w' B A zs := h.keep fun _ hp => hb.cell (by omega)
theorem BoolsAt.drewN (h : BoolsAt w B A zs) (k : Nat) : BoolsAt (w.drewN k) B A zs := h
theorem BoolsAt.alloc (h : BoolsAt w B A zs) (hB : B ≤ w.heap.size) (o : Obj) : BoolsAt (w.alloc o) B A zs := h.keep fun p hp => World.cell?_alloc_lt w o p (by omega)
theorem BoolsAt.allocS (h : BoolsAt w w.heap.size A zs) (o : Obj) : BoolsAt (w.alloc o) (w.alloc o).heap.size A zs := (h.alloc (Nat.le_refl _) o).more (by simp)
theorem BoolsAt.belowS (h : BoolsAt w w.heap.size A zs) (hb : Below w.heap.size w w') : BoolsAt w' w'.heap.size A zs := (h.below hb (Nat.le_refl _)).more hb.size
theorem BoolsAt.grown {row : Option Nat} (h : BoolsAt w B A zs) (hg : w.grownBy w' row) (hB : B ≤ w.heap.size) (hr : ∀ g, row = some g → B ≤ g) : BoolsAt w' B A zs :=
  h.keep fun p hp => World.cell?_of_block (hg.block p.block (by omega) (fun e => by have := hr _ e.symm; omega))
/-- A part of such a slice. -/
theorem BoolsAt.part (h : BoolsAt w B A zs) (s n : Nat) {b o : Nat} (hA : A = some ⟨b, o, none⟩) : BoolsAt w B (some ⟨b, o + s, none⟩) ((zs.drop s).take n) := fun hn => by
  rw [List.length_take, List.length_drop] at hn
  obtain ⟨b', o', e, hb, hc⟩ := h (by omega)
  subst hA
  injection e with e
  injection e with e1 e2
  subst e1 e2
  refine ⟨b, o + s, rfl, hb, fun k hk => ?_⟩
  rw [List.length_take, List.length_drop] at hk
  rw [Nat.add_assoc, hc (s + k) (by omega), bth, bth, List.getD_eq_getElem?_getD, List.getD_eq_getElem?_getD, List.getElem?_take_of_lt (by omega), List.getElem?_drop]
theorem BoolsAt.first (h : BoolsAt w B A zs) (n : Nat) : BoolsAt w B A (zs.take n) := fun hn => by
  rw [List.length_take] at hn
  obtain ⟨b, o, e, hb, hc⟩ := h (by omega)
  refine ⟨b, o, e, hb, fun k hk => ?_⟩
  rw [List.length_take] at hk
  rw [hc k (by omega), bth, bth, List.getD_eq_getElem?_getD, List.getD_eq_getElem?_getD, List.getElem?_take_of_lt (by omega)]
theorem BoolsAt.lt {b o : Nat} (h : BoolsAt w B (some ⟨b, o, none⟩) zs) (hn : 0 < zs.length) : b < B ∧ ∀ k, k < zs.length → w.cell? ⟨b, o + k, none⟩ = some (.bool (bth zs k)) := by
  obtain ⟨b', o', e, hb, hc⟩ := h hn
  injection e with e
  injection e with e1 e2
  subst e1 e2
  exact ⟨hb, hc⟩
end

/-- A slice of the call's own (from block base on) that holds the numbers zs. -/
def OwnBools (w : World) (base : Nat) (A : Option Addr) (cap : Nat) (zs : List Bool) : Prop :=
  w.ownsRow base 4 1 (.slice A zs.length cap) zs.length (bals zs)
section
variable {w w' : World} {base : Nat} {A : Option Addr} {cap : Nat} {zs : List Bool}
theorem OwnBools.ints (h : OwnBools w base A cap zs) : BoolsAt w w.heap.size A zs := fun hn => by
  obtain ⟨g, c, hv, _, hlt⟩ := World.ownsRow.form h hn
  injection hv with hA _ _
  subst hA
  refine ⟨g, 0, rfl, hlt, fun k hk => ?_⟩
  have := World.ownsRow.cells h (g := g) rfl k (vb (bth zs k)) (bals_get zs k hk)
  rw [Addr.add_lit] at this
  exact this
theorem OwnBools.le (h : OwnBools w base A cap zs) : zs.length ≤ cap ∧ cap ≤ maxLen := by
  rcases h.2 with ⟨hv, hn⟩ | ⟨g, c, cur, hv, _, _, h1, h2, _⟩
  · injection hv with _ _ hc; exact ⟨by omega, by omega⟩
  · injection hv with _ _ hc; subst hc; exact ⟨h1, h2⟩
theorem OwnBools.below (h : OwnBools w base A cap zs) (hb : Below w.heap.size w w') : OwnBools w' base A cap zs :=
  World.ownsRow.kept h (grown_of_below hb none) (by
    rcases h.2 with ⟨hv, _⟩ | ⟨g, c, cur, hv, _⟩
    · left; rw [hv]; rfl
    · right; rw [hv]; simp [Value.ownBlock])
theorem OwnBools.drewN (h : OwnBools w base A cap zs) (n : Nat) : OwnBools (w.drewN n) base A cap zs := h
/-- An empty slice that was just made. -/
theorem OwnBools.new (w : World) : OwnBools (w.alloc (.cells #[] 4)) w.heap.size (some ⟨w.heap.size, 0, none⟩) 0 [] :=
  World.ownsRow_lit w #[] 0 (Nat.le_refl _) (by simp [maxLen]) (by simp)
theorem OwnBools.base_le (h : OwnBools w base A cap zs) {b : Nat} (hb : b ≤ base) : OwnBools w b A cap zs := by
  refine ⟨h.1, ?_⟩
  rcases h.2 with h0 | ⟨g, c, cur, hv, hg, hr⟩
  · exact .inl h0
  · exact .inr ⟨g, c, cur, hv, by omega, hr⟩
end

/-- What a function hands back that makes a slice of integers: the numbers zs in memory of its own; nothing that was there is changed. -/
def RetBools (w : World) (zs : List Bool) (e : Ending) (w' : World) : Prop :=
  ∃ A cap, e = .returned (.slice A zs.length cap) ∧ OwnBools w' w.heap.size A cap zs ∧ Below w.heap.size w w'

theorem bool_info : (Try.prog.info? 4).map (fun i => (i.zero, i.size, i.bytes)) = some (some (.bool false), 1, 1) := by kernel_rfl

/-- What an append leaves. -/
structure AppendedB (W : World) (base : Nat) (A : Option Addr) (n c : Nat) (zs : List Bool) (v : Value) (w' : World) : Prop where
  own : ∃ A' c', v = .slice A' zs.length c' ∧ OwnBools w' base A' c' zs
  grown : W.grownBy w' (Value.ownBlock (.slice A n c))
  below : Below base W w'

theorem OwnBools.far {w : World} {base : Nat} {A : Option Addr} {cap n : Nat} {zs : List Bool} (h : OwnBools w base A cap zs) : ∀ g, Value.ownBlock (.slice A n cap) = some g → base ≤ g := by
  intro g hg
  rcases h.2 with ⟨hv, _⟩ | ⟨g', c, cur, hv, hb, _⟩
  · injection hv with hA _ _; subst hA; cases hg
  · injection hv with hA _ _; subst hA
    simp [Value.ownBlock] at hg
    omega
theorem OwnBools.alloc {w : World} {base : Nat} {A : Option Addr} {cap : Nat} {zs : List Bool} (h : OwnBools w base A cap zs) (o : Obj) : OwnBools (w.alloc o) base A cap zs := World.ownsRow.alloc h o









/-- One element that was just laid in a block of its own. -/
theorem one_newB (W : World) (z : Bool) : BoolsAt (W.alloc (.cells #[.bool z] 4)) (W.alloc (.cells #[.bool z] 4)).heap.size (some ⟨W.heap.size, 0, none⟩) [z] := fun _ => by
  refine ⟨W.heap.size, 0, rfl, by simp, fun k hk => ?_⟩
  have : k = 0 := by simp at hk; omega
  subst this
  have := cell_one_new W (.bool z) 4 0 (.bool z) rfl
  rw [Addr.add_lit] at this
  exact this

end Go.Proofs.Ytjefkpjjdloodaa

namespace Go.Proofs.Ytjefkpjjdloodaa
open Go.RowKit
set_option linter.unusedVariables false

theorem eqb_take (a b : List Bool) (k : Nat) (ha : k < a.length) (hb : k < b.length) (h : a.take k = b.take k) (e : bth a k = bth b k) : a.take (k + 1) = b.take (k + 1) := by
  rw [List.take_succ_eq_append_getElem ha, List.take_succ_eq_append_getElem hb, h]
  unfold bth at e
  rw [List.getD_eq_getElem?_getD, List.getD_eq_getElem?_getD, List.getElem?_eq_getElem ha, List.getElem?_eq_getElem hb] at e
  simp at e
  rw [e]
theorem eqb_ne (a b : List Bool) (k : Nat) (e : bth a k ≠ bth b k) : decide (a = b) = false := by
  rw [decide_eq_false_iff_not]
  intro h
  subst h
  exact e rfl



end Go.Proofs.Ytjefkpjjdloodaa

namespace Go.Proofs.Ytjefkpjjdloodaa
open Go.RowKit
set_option linter.unusedVariables false

theorem madeCells_vals (n : Nat) : madeCells #[Value.int .i64 0] n = (vals (zerosZ n)).toArray := by
  apply Array.ext'
  rw [toList_madeCells_one]
  simp [vals, zerosZ]
theorem own_made (w : World) (n : Nat) (hn : n ≤ 1048576) : OwnInts (w.alloc (.cells (vals (zerosZ n)).toArray 3)) w.heap.size (some ⟨w.heap.size, 0, none⟩) n (zerosZ n) := by
  have := World.ownsRow_lit (e := 3) (size := 1) w (vals (zerosZ n)).toArray n (Nat.le_refl _) (by unfold maxLen; omega) (by rw [List.size_toArray, vals_length, zerosZ_length]; omega)
  unfold OwnInts
  rw [zerosZ_length]
  exact this
theorem own_stored {w : World} {base b cap : Nat} {zs : List Int} (h : OwnInts w base (some ⟨b, 0, none⟩) cap zs) (j : Nat) (x : Int) : OwnInts (w.setCell ⟨b, j, none⟩ (.int .i64 x)) base (some ⟨b, 0, none⟩) cap (zs.set j x) ∧ w.grownBy (w.setCell ⟨b, j, none⟩ (.int .i64 x)) (some b) := by
  have := World.ownsRow.stored h j (.int .i64 x)
  refine ⟨?_, this.2⟩
  unfold OwnInts
  rw [List.length_set]
  have e : vals (zs.set j x) = (vals zs).set j (i64 x) := by unfold vals; rw [List.map_set]
  rw [e]
  exact this.1
theorem own_cell {w : World} {base b cap : Nat} {zs : List Int} (h : OwnInts w base (some ⟨b, 0, none⟩) cap zs) (j : Nat) (hj : j < zs.length) : w.cell? ⟨b, j, none⟩ = some (.int .i64 (nth zs j)) ∧ w.frozen? ⟨b, j, none⟩ = false := by
  have h1 := (h.ints.lt (by omega)).2 j hj
  rw [Nat.zero_add] at h1
  exact ⟨h1, World.ownsRow.frozenAt h j⟩
theorem copy_step (zs : List Int) (k n : Nat) (hn : zs.length = n) (hk : k < n) : (zs.take k ++ zerosZ (n - k)).set k (nth zs k) = zs.take (k + 1) ++ zerosZ (n - (k + 1)) := by
  have hl : (zs.take k).length = k := by rw [List.length_take]; omega
  have e : n - k = (n - (k + 1)) + 1 := by omega
  have hz : zerosZ (n - k) = 0 :: zerosZ (n - (k + 1)) := by rw [e]; rfl
  have ht : zs.take (k + 1) = zs.take k ++ [nth zs k] := by
    rw [List.take_succ_eq_append_getElem (by omega), nth, List.getD_eq_getElem?_getD, List.getElem?_eq_getElem (by omega)]; rfl
  rw [hz, ht, List.set_append_right _ _ (by omega), hl, Nat.sub_self, List.append_assoc]
  rfl
theorem nth_zeros (zs : List Int) (k n : Nat) (hn : zs.length = n) (hk : k < n) : (zs.take k ++ zerosZ (n - k)).length = n := by rw [List.length_append, List.length_take, zerosZ_length]; omega

def Copied (w : World) (zs : List Int) (e : Ending) (w' : World) : Prop :=
  e = .returned (.slice (some ⟨w.heap.size, 0, none⟩) zs.length zs.length) ∧ OwnInts w' w.heap.size (some ⟨w.heap.size, 0, none⟩) zs.length zs ∧ Below w.heap.size w w'



/-- The numbers from j on. -/
def marks : Nat → Nat → List Int
  | _, 0 => []
  | j, n + 1 => (j : Int) :: marks (j + 1) n
theorem marks_length : ∀ j n, (marks j n).length = n := by
  intro j n
  induction n generalizing j with
  | zero => rfl
  | succ n ih => show (marks (j + 1) n).length + 1 = n + 1; rw [ih]
theorem marks_nth : ∀ j n k, k < n → nth (marks j n) k = ((j + k : Nat) : Int) := by
  intro j n
  induction n generalizing j with
  | zero => intro k h; omega
  | succ n ih =>
    intro k h
    cases k with
    | zero => rfl
    | succ k =>
      have := ih (j + 1) k (by omega)
      show nth (marks (j + 1) n) k = _
      rw [this, Nat.add_assoc, Nat.add_comm 1 k]
theorem marks_snoc : ∀ j k, marks j (k + 1) = marks j k ++ [((j + k : Nat) : Int)] := by
  intro j k
  induction k generalizing j with
  | zero => rfl
  | succ k ih =>
    show (j : Int) :: marks (j + 1) (k + 1) = (j : Int) :: marks (j + 1) k ++ [_]
    rw [ih (j + 1), Nat.add_assoc, Nat.add_comm 1 k]
    rfl
theorem marks_step (zs : List Int) (j k : Nat) (hk : k < zs.length) : (marks j k ++ zs.drop k).set k ((j + k : Nat) : Int) = marks j (k + 1) ++ zs.drop (k + 1) := by
  have hd := List.drop_eq_getElem_cons hk
  rw [marks_snoc, List.set_append_right _ _ (by rw [marks_length]; omega), marks_length, Nat.sub_self, hd, List.append_assoc]
  rfl

def Marked (w : World) (base : Nat) (A : Option Addr) (cap n : Nat) (e : Ending) (w' : World) : Prop :=
  e = .returned (.int .i64 ((1 + n : Nat) : Int)) ∧ OwnInts w' base A cap (marks 1 n) ∧ (∀ b, A = some ⟨b, 0, none⟩ → w.grownBy w' (some b)) ∧ (A = none → w = w')

set_option maxHeartbeats 2000000 in
theorem mark_some (base b cap : Nat) (zs : List Int) (w : World) (hO : OwnInts w base (some ⟨b, 0, none⟩) cap zs) (hm : zs.length ≤ 1048576) :
    Calls Try.prog 21 #[.slice (some ⟨b, 0, none⟩) zs.length cap, .int .i64 1] w (Marked w base (some ⟨b, 0, none⟩) cap zs.length) := by
  have HO := Lib.hid hO
  obtain ⟨n, HN⟩ : ∃ n, Hid (zs.length = n) := ⟨_, rfl⟩
  rw [HN.out] at hm ⊢
  clear hO
  go_enter Try.func21, Try.ntmps21
  go_wp2
  go_loopw [1, 5] (fun x i w' => ∃ k : Nat, k ≤ n ∧ x = .int .i64 ((1 + k : Nat) : Int) ∧ i = .int .i64 k ∧ Hid (OwnInts w' base (some ⟨b, 0, none⟩) cap (marks 1 k ++ zs.drop k)) ∧ Hid (w.grownBy w' (some b))) (fun _ i _ => n - (intOf i).toNat)
  case atStart => exact ⟨0, by omega, rfl, rfl, HO, World.grownBy.refl _ _⟩
  case round =>
    obtain ⟨k, hk, rfl, rfl, HO1, HG⟩ := hrel
    by_cases hlt : k < n
    · have hkz : k < zs.length := by rw [HN.out]; exact hlt
      have hlen : (marks 1 k ++ zs.drop k).length = n := by rw [List.length_append, marks_length, List.length_drop, HN.out]; omega
      obtain ⟨hcx, hfx⟩ := own_cell HO1.out k (by omega)
      have hki : (k : Int) < (n : Int) := by omega
      have hs := own_stored HO1.out k ((1 + k : Nat) : Int)
      rw [marks_step zs 1 k hkz] at hs
      have HS := Lib.hid hs.1
      have HGS : Hid (w.grownBy (wr.setCell ⟨b, k, none⟩ (.int .i64 ((1 + k : Nat) : Int))) (some b)) := World.grownBy.trans HG.out hs.2
      clear hkz hlen hs
      have hcast : ((1 + k : Nat) : Int) = 1 + (k : Int) := by omega
      rw [hcast] at HS HGS
      clear hcast
      go_wp2
      go_roundw
      case rel => exact ⟨k + 1, by omega, by go_num, by go_num, HS, HGS⟩
      case measure => simp [intOf]; omega
    · have hkn : k = n := by omega
      subst hkn
      have ho := HO1.out
      rw [List.drop_eq_nil_of_le (by rw [HN.out]; omega), List.append_nil] at ho
      have HO' := Lib.hid ho
      clear ho
      go_wp2
      go_ret
      exact ⟨ret_int (by simp), HO'.out, (fun b' e => by injection e with e; injection e with e _ _; subst e; exact HG.out), (fun e => by cases e)⟩

set_option maxHeartbeats 800000 in
theorem mark_any (base : Nat) (A : Option Addr) (cap : Nat) (zs : List Int) (w : World) (hO : OwnInts w base A cap zs) (hm : zs.length ≤ 1048576) :
    Calls Try.prog 21 #[.slice A zs.length cap, .int .i64 1] w (Marked w base A cap zs.length) := by
  rcases A with _ | ad
  · have h0 : zs = [] := by
      cases zs with
      | nil => rfl
      | cons z zs => obtain ⟨b, o, e, _⟩ := hO.ints (by simp); cases e
    subst h0
    have HO := Lib.hid hO
    clear hO
    go_enter Try.func21, Try.ntmps21
    go_wp2
    go_loop [1, 5] (fun x i => x = .int .i64 1 ∧ i = .int .i64 0) (fun _ _ => 0)
    case atStart => exact ⟨rfl, rfl⟩
    case round =>
      obtain ⟨rfl, rfl⟩ := hrel
      go_wp2
      go_ret
      exact ⟨rfl, HO.out, (fun b e => by cases e), fun _ => rfl⟩
  · have : ∃ b, ad = ⟨b, 0, none⟩ := by
      rcases hO.2 with ⟨hv, _⟩ | ⟨g, c, cur, hv, _⟩
      · injection hv with hA _ _; cases hA
      · injection hv with hA _ _; injection hA with hA; exact ⟨g, hA⟩
    obtain ⟨b, rfl⟩ := this
    exact mark_some base b cap zs w hO hm

set_option maxHeartbeats 2000000 in
theorem held_any (A : Option Addr) (cap n : Nat) (w : World) (hI : IntsAt w w.heap.size A (marks 1 n)) (hm : n ≤ 1048576) :
    Calls Try.prog 22 #[.slice A n cap, .int .i64 1] w fun e w' => e = .returned (.int .i64 ((1 + n : Nat) : Int)) ∧ w = w' := by
  have HI := Lib.hid hI
  clear hI
  go_enter Try.func22, Try.ntmps22
  go_wp2
  go_loop [1, 5] (fun x i => ∃ k : Nat, k ≤ n ∧ x = .int .i64 ((1 + k : Nat) : Int) ∧ i = .int .i64 k) (fun _ i => n - (intOf i).toNat)
  case atStart => exact ⟨0, by omega, rfl, rfl⟩
  case round =>
    obtain ⟨k, hk, rfl, rfl⟩ := hrel
    by_cases hlt : k < n
    · obtain ⟨b, o, rfl, hb, hc⟩ := HI.out (by rw [marks_length]; omega)
      have hck := hc k (by rw [marks_length]; exact hlt)
      rw [marks_nth 1 n k hlt] at hck
      have hki : (k : Int) < (n : Int) := by omega
      have hcast : ((1 + k : Nat) : Int) = 1 + (k : Int) := by omega
      rw [hcast] at hck
      have hnn : ((1 + (k : Int)) != (1 + (k : Int))) = false := by simp
      clear hc hcast
      go_wp2
      go_round
      case rel => exact ⟨k + 1, by omega, by go_num, by go_num⟩
      case measure => simp [intOf]; omega
    · have hkn : k = n := by omega
      subst hkn
      go_wp2
      go_ret
      exact ⟨ret_int (by simp), rfl⟩

/-- From what a row's reading tells of a slice of integers (IsRow) to what my contracts ask of it. -/
theorem ints_of_row {w : World} {a : Option Addr} {len cap : Nat} {zs : List Int} (h : IsRow .i64 w a len cap zs) : IntsAt w w.heap.size a (zs.take len) ∧ (zs.take len).length = len ∧ len ≤ maxLen := by
  rcases h with ⟨rfl, rfl, rfl, rfl⟩ | ⟨x, rfl, hl, hm, hz, hc, hw⟩
  · exact ⟨IntsAt.nil, rfl, by simp [maxLen]⟩
  · have hlen : (zs.take len).length = len := by rw [List.length_take]; omega
    refine ⟨fun hn => ?_, hlen, Nat.le_trans hl hm⟩
    rw [hlen] at hn
    obtain ⟨b, o, sp⟩ := x
    have hs := World.cell?_spot (hc 0 (by omega))
    have hs0 : sp = none := by simpa [Addr.add] using hs
    subst hs0
    have hcell : ∀ k, k < zs.length → w.cell? ⟨b, o + k, none⟩ = some (.int .i64 (zs.getD k 0)) := fun k hk => by
      have := hc k hk
      rw [Addr.add_lit] at this
      exact this
    have h0 := hcell 0 (by omega)
    refine ⟨b, o, rfl, World.block_lt_of_cell? w _ h0, fun k hk => ?_⟩
    rw [hlen] at hk
    rw [hcell k (by omega)]
    unfold nth
    rw [List.getD_eq_getElem?_getD, List.getD_eq_getElem?_getD, List.getElem?_take_of_lt hk]

end Go.Proofs.Ytjefkpjjdloodaa

namespace Go.Proofs.Ytjefkpjjdloodaa
open Go.RowKit
set_option linter.unusedVariables false

def noB (k : Nat) : List Bool := List.replicate k false
theorem noB_length (k : Nat) : (noB k).length = k := List.length_replicate
theorem madeCells_bals (n : Nat) : madeCells #[Value.bool false] n = (bals (noB n)).toArray := by
  apply Array.ext'
  rw [toList_madeCells_one]
  simp [bals, noB]
theorem ownb_made (w : World) (n : Nat) (hn : n ≤ 1048576) : OwnBools (w.alloc (.cells (bals (noB n)).toArray 4)) w.heap.size (some ⟨w.heap.size, 0, none⟩) n (noB n) := by
  have := World.ownsRow_lit (e := 4) (size := 1) w (bals (noB n)).toArray n (Nat.le_refl _) (by unfold maxLen; omega) (by rw [List.size_toArray, bals_length, noB_length]; omega)
  unfold OwnBools
  rw [noB_length]
  exact this
theorem ownb_stored {w : World} {base b cap : Nat} {zs : List Bool} (h : OwnBools w base (some ⟨b, 0, none⟩) cap zs) (j : Nat) (x : Bool) : OwnBools (w.setCell ⟨b, j, none⟩ (.bool x)) base (some ⟨b, 0, none⟩) cap (zs.set j x) ∧ w.grownBy (w.setCell ⟨b, j, none⟩ (.bool x)) (some b) := by
  have := World.ownsRow.stored h j (.bool x)
  refine ⟨?_, this.2⟩
  unfold OwnBools
  rw [List.length_set]
  have e : bals (zs.set j x) = (bals zs).set j (vb x) := by unfold bals; rw [List.map_set]
  rw [e]
  exact this.1
theorem ownb_cell {w : World} {base b cap : Nat} {zs : List Bool} (h : OwnBools w base (some ⟨b, 0, none⟩) cap zs) (j : Nat) (hj : j < zs.length) : w.cell? ⟨b, j, none⟩ = some (.bool (bth zs j)) ∧ w.frozen? ⟨b, j, none⟩ = false := by
  have h1 := (h.ints.lt (by omega)).2 j hj
  rw [Nat.zero_add] at h1
  exact ⟨h1, World.ownsRow.frozenAt h j⟩
theorem copyb_step (zs : List Bool) (k n : Nat) (hn : zs.length = n) (hk : k < n) : (zs.take k ++ noB (n - k)).set k (bth zs k) = zs.take (k + 1) ++ noB (n - (k + 1)) := by
  have hl : (zs.take k).length = k := by rw [List.length_take]; omega
  have e : n - k = (n - (k + 1)) + 1 := by omega
  have hz : noB (n - k) = false :: noB (n - (k + 1)) := by rw [e]; rfl
  have ht : zs.take (k + 1) = zs.take k ++ [bth zs k] := by
    rw [List.take_succ_eq_append_getElem (by omega), bth, List.getD_eq_getElem?_getD, List.getElem?_eq_getElem (by omega)]; rfl
  rw [hz, ht, List.set_append_right _ _ (by omega), hl, Nat.sub_self, List.append_assoc]
  rfl
theorem bth_noB (zs : List Bool) (k n : Nat) (hn : zs.length = n) (hk : k < n) : (zs.take k ++ noB (n - k)).length = n := by rw [List.length_append, List.length_take, noB_length]; omega

def CopiedB (w : World) (zs : List Bool) (e : Ending) (w' : World) : Prop :=
  e = .returned (.slice (some ⟨w.heap.size, 0, none⟩) zs.length zs.length) ∧ OwnBools w' w.heap.size (some ⟨w.heap.size, 0, none⟩) zs.length zs ∧ Below w.heap.size w w'



/-- The pattern that markBoolS writes, from j on. -/
def third (j : Int) : Bool := j % 3 == 0
theorem third_eq (j : Int) : (j % 3 == 0) = third j := rfl
def bmarks : Nat → Nat → List Bool
  | _, 0 => []
  | j, n + 1 => third (j : Int) :: bmarks (j + 1) n
theorem bmarks_length : ∀ j n, (bmarks j n).length = n := by
  intro j n
  induction n generalizing j with
  | zero => rfl
  | succ n ih => show (bmarks (j + 1) n).length + 1 = n + 1; rw [ih]
theorem bmarks_bth : ∀ j n k, k < n → bth (bmarks j n) k = third ((j + k : Nat) : Int) := by
  intro j n
  induction n generalizing j with
  | zero => intro k h; omega
  | succ n ih =>
    intro k h
    cases k with
    | zero => rfl
    | succ k =>
      have := ih (j + 1) k (by omega)
      show bth (bmarks (j + 1) n) k = _
      rw [this, Nat.add_assoc, Nat.add_comm 1 k]
theorem bmarks_snoc : ∀ j k, bmarks j (k + 1) = bmarks j k ++ [third ((j + k : Nat) : Int)] := by
  intro j k
  induction k generalizing j with
  | zero => rfl
  | succ k ih =>
    show third (j : Int) :: bmarks (j + 1) (k + 1) = third (j : Int) :: bmarks (j + 1) k ++ [_]
    rw [ih (j + 1), Nat.add_assoc, Nat.add_comm 1 k]
    rfl
theorem bmarks_step (zs : List Bool) (j k : Nat) (hk : k < zs.length) : (bmarks j k ++ zs.drop k).set k (third ((j + k : Nat) : Int)) = bmarks j (k + 1) ++ zs.drop (k + 1) := by
  have hd := List.drop_eq_getElem_cons hk
  rw [bmarks_snoc, List.set_append_right _ _ (by rw [bmarks_length]; omega), bmarks_length, Nat.sub_self, hd, List.append_assoc]
  rfl

def MarkedB (w : World) (base : Nat) (A : Option Addr) (cap : Nat) (k0 n : Nat) (e : Ending) (w' : World) : Prop :=
  e = .returned (.int .i64 ((k0 + n : Nat) : Int)) ∧ OwnBools w' base A cap (bmarks k0 n) ∧ (∀ b, A = some ⟨b, 0, none⟩ → w.grownBy w' (some b)) ∧ (A = none → w = w')







/-- A slice of bools that came in: nil, or a row of cap cells with the bools zs. -/
def IsRowB (w : World) (a : Option Addr) (len cap : Nat) (zs : List Bool) : Prop :=
  (a = none ∧ len = 0 ∧ cap = 0 ∧ zs = []) ∨
  ∃ x, a = some x ∧ len ≤ cap ∧ cap ≤ maxLen ∧ zs.length = cap ∧ (∀ i, i < zs.length → w.cell? (x.add i) = some (.bool (zs.getD i false)))

theorem rowB_cell {w : World} {x : Addr} {c : Nat} {B : Nat → Bool} (hc : ∀ i, i < c → w.cell? (x.add i) = some (.bool (B i))) (i : Nat) (hi : i < ((List.range c).map B).length) : w.cell? (x.add i) = some (.bool (((List.range c).map B).getD i false)) := by
  have h : i < c := by simpa using hi
  rw [hc i h, List.getD_eq_getElem?_getD, List.getElem?_map, List.getElem?_range h]
  rfl

theorem bools_of_row {w : World} {a : Option Addr} {len cap : Nat} {zs : List Bool} (h : IsRowB w a len cap zs) : BoolsAt w w.heap.size a (zs.take len) ∧ (zs.take len).length = len ∧ len ≤ maxLen := by
  rcases h with ⟨rfl, rfl, rfl, rfl⟩ | ⟨x, rfl, hl, hm, hz, hc⟩
  · exact ⟨BoolsAt.nil, rfl, by simp [maxLen]⟩
  · have hlen : (zs.take len).length = len := by rw [List.length_take]; omega
    refine ⟨fun hn => ?_, hlen, Nat.le_trans hl hm⟩
    rw [hlen] at hn
    obtain ⟨b, o, sp⟩ := x
    have hs := World.cell?_spot (hc 0 (by omega))
    have hs0 : sp = none := by simpa [Addr.add] using hs
    subst hs0
    have hcell : ∀ k, k < zs.length → w.cell? ⟨b, o + k, none⟩ = some (.bool (zs.getD k false)) := fun k hk => by
      have := hc k hk
      rw [Addr.add_lit] at this
      exact this
    have h0 := hcell 0 (by omega)
    refine ⟨b, o, rfl, World.block_lt_of_cell? w _ h0, fun k hk => ?_⟩
    rw [hlen] at hk
    rw [hcell k (by omega)]
    unfold bth
    rw [List.getD_eq_getElem?_getD, List.getD_eq_getElem?_getD, List.getElem?_take_of_lt hk]

end Go.Proofs.Ytjefkpjjdloodaa

namespace Go.Proofs.Ytjefkpjjdloodaa
open Go.RowKit
set_option linter.unusedVariables false

theorem deci_same (l : List Int) : decide (l = l) = true := by simp
theorem decb_same (l : List Bool) : decide (l = l) = true := by simp
theorem own_ne {w w' : World} {base : Nat} {A : Option Addr} {cap : Nat} {zs : List Int} (h : OwnInts w base A cap zs) {b : Nat} (hg : w.grownBy w' (some b)) (hne : ∀ g, A = some ⟨g, 0, none⟩ → g ≠ b) : OwnInts w' base A cap zs := by
  refine World.ownsRow.kept h hg ?_
  rcases h.2 with ⟨hv, _⟩ | ⟨g, c, cur, hv, hb, _⟩
  · left; rw [hv]; rfl
  · right
    have hA : A = some ⟨g, 0, none⟩ := by injection hv
    rw [hv]
    intro e
    exact hne g hA (by simpa [Value.ownBlock] using e)
theorem own_lt {w : World} {base : Nat} {A : Option Addr} {cap : Nat} {zs : List Int} (h : OwnInts w base A cap zs) : ∀ g, A = some ⟨g, 0, none⟩ → base ≤ g ∧ g < w.heap.size := by
  intro g hA
  subst hA
  exact World.ownsRow.lt h g rfl
theorem ownb_ne {w w' : World} {base : Nat} {A : Option Addr} {cap : Nat} {zs : List Bool} (h : OwnBools w base A cap zs) {b : Nat} (hg : w.grownBy w' (some b)) (hne : ∀ g, A = some ⟨g, 0, none⟩ → g ≠ b) : OwnBools w' base A cap zs := by
  refine World.ownsRow.kept h hg ?_
  rcases h.2 with ⟨hv, _⟩ | ⟨g, c, cur, hv, hb, _⟩
  · left; rw [hv]; rfl
  · right
    have hA : A = some ⟨g, 0, none⟩ := by injection hv
    rw [hv]
    intro e
    exact hne g hA (by simpa [Value.ownBlock] using e)
theorem ownb_lt {w : World} {base : Nat} {A : Option Addr} {cap : Nat} {zs : List Bool} (h : OwnBools w base A cap zs) : ∀ g, A = some ⟨g, 0, none⟩ → base ≤ g ∧ g < w.heap.size := by
  intro g hA
  subst hA
  exact World.ownsRow.lt h g rfl
/-- Where a row of the call's own lies: nowhere (it is nil), or at the head of a block. -/
theorem own_form {w : World} {base : Nat} {A : Option Addr} {cap : Nat} {zs : List Int} (h : OwnInts w base A cap zs) : A = none ∨ ∃ g, A = some ⟨g, 0, none⟩ := by
  rcases h.2 with ⟨hv, _⟩ | ⟨g, c, cur, hv, _⟩
  · injection hv with hA _ _; exact .inl hA
  · injection hv with hA _ _; exact .inr ⟨g, hA⟩
theorem ownb_form {w : World} {base : Nat} {A : Option Addr} {cap : Nat} {zs : List Bool} (h : OwnBools w base A cap zs) : A = none ∨ ∃ g, A = some ⟨g, 0, none⟩ := by
  rcases h.2 with ⟨hv, _⟩ | ⟨g, c, cur, hv, _⟩
  · injection hv with hA _ _; exact .inl hA
  · injection hv with hA _ _; exact .inr ⟨g, hA⟩
/-- What marking a row leaves, told as one fact: whatever block is not the row's lies as it lay. -/
theorem marked_other {w w' : World} {base : Nat} {A : Option Addr} {cap n : Nat} {zs : List Int} {e : Ending} (h : OwnInts w base A cap zs) (hm : Marked w base A cap n e w') : Below base w w' ∧ (∀ i, i < w.heap.size → (∀ g, A = some ⟨g, 0, none⟩ → i ≠ g) → w'.heap[i]? = w.heap[i]?) := by
  obtain ⟨_, _, hg, hn⟩ := hm
  rcases own_form h with hA | ⟨g, hA⟩
  · have e := hn hA
    subst e
    exact ⟨Below.refl _ _, fun i _ _ => rfl⟩
  · have hgg := hg g hA
    have hlt := own_lt h g hA
    exact ⟨(Below.refl _ _).grown hgg (by omega) (fun k hk => by injection hk with hk; omega), fun i hi hne => hgg.block i hi (fun e => hne g hA (by injection e))⟩
theorem markedb_other {w w' : World} {base : Nat} {A : Option Addr} {cap k0 n : Nat} {zs : List Bool} {e : Ending} (h : OwnBools w base A cap zs) (hm : MarkedB w base A cap k0 n e w') : Below base w w' ∧ (∀ i, i < w.heap.size → (∀ g, A = some ⟨g, 0, none⟩ → i ≠ g) → w'.heap[i]? = w.heap[i]?) := by
  obtain ⟨_, _, hg, hn⟩ := hm
  rcases ownb_form h with hA | ⟨g, hA⟩
  · have e := hn hA
    subst e
    exact ⟨Below.refl _ _, fun i _ _ => rfl⟩
  · have hgg := hg g hA
    have hlt := ownb_lt h g hA
    exact ⟨(Below.refl _ _).grown hgg (by omega) (fun k hk => by injection hk with hk; omega), fun i hi hne => hgg.block i hi (fun e => hne g hA (by injection e))⟩
/-- A row is there wherever its block lies as it lay. -/
theorem own_block {w w' : World} {base : Nat} {A : Option Addr} {cap : Nat} {zs : List Int} (h : OwnInts w base A cap zs) (hk : ∀ g, A = some ⟨g, 0, none⟩ → w'.heap[g]? = w.heap[g]?) : OwnInts w' base A cap zs := by
  refine ⟨h.1, ?_⟩
  rcases h.2 with h0 | ⟨g, c, cur, hv, hg, hgb, hr⟩
  · exact .inl h0
  · have hA : A = some ⟨g, 0, none⟩ := by injection hv
    exact .inr ⟨g, c, cur, hv, hg, (hk g hA).trans hgb, hr⟩
theorem ownb_block {w w' : World} {base : Nat} {A : Option Addr} {cap : Nat} {zs : List Bool} (h : OwnBools w base A cap zs) (hk : ∀ g, A = some ⟨g, 0, none⟩ → w'.heap[g]? = w.heap[g]?) : OwnBools w' base A cap zs := by
  refine ⟨h.1, ?_⟩
  rcases h.2 with h0 | ⟨g, c, cur, hv, hg, hgb, hr⟩
  · exact .inl h0
  · have hA : A = some ⟨g, 0, none⟩ := by injection hv
    exact .inr ⟨g, c, cur, hv, hg, (hk g hA).trans hgb, hr⟩
/-- Rows whose bases part: the elder is kept while the younger is written. -/
theorem own_older {w w' : World} {b0 b1 : Nat} {A : Option Addr} {cap : Nat} {zs : List Int} (h : OwnInts w b0 A cap zs) (hlt : ∀ g, A = some ⟨g, 0, none⟩ → g < b1) (hb : Below b1 w w') : OwnInts w' b0 A cap zs :=
  own_block h fun g hA => hb.block g (hlt g hA)
theorem ownb_older {w w' : World} {b0 b1 : Nat} {A : Option Addr} {cap : Nat} {zs : List Bool} (h : OwnBools w b0 A cap zs) (hlt : ∀ g, A = some ⟨g, 0, none⟩ → g < b1) (hb : Below b1 w w') : OwnBools w' b0 A cap zs :=
  ownb_block h fun g hA => hb.block g (hlt g hA)



end Go.Proofs.Ytjefkpjjdloodaa
