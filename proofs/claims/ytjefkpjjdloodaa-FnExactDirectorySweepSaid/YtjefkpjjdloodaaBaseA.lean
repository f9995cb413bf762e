/- Contracts of chapter 1 (digests) and of its models: what each function returns, and that it leaves the world as it was. Conditions: the arguments of the combining functions are digests. Words for memory: a slice of integers that reads as a list, a slice of the call's own that holds integers, and how both are kept. No conditions. How one integer, or several, are appended to a slice of integers of the call's own. Conditions: the lengths stay below 2^31. Contract of the laws' function eqIntS: it reports whether two slices read as the same list; it changes nothing. Condition: both lie in memory. How several zeros (a slice that was just made) are appended to a slice of integers of the call's own. Conditions: the lengths stay below 2^31. The reader of a code, in memory (Rd), and the contract of pick: it returns a number from 0 to n-1, moves the reader's place on by one, and changes nothing else. Conditions: 1 ≤ n ≤ 1000, the place is at most 1000000, the code has at most 2000 bytes. Contract of l6Open: it makes a reader at place 0 over at most 2000 bytes of the code, and changes nothing that was there. Condition: the code's bytes lie in memory. From what a row's reading tells of a slice of bytes (IsRow) to what my contracts ask of it (In). No conditions. -/
import Derived.Test.YtjefkpjjdloodaaRows
import Derived.WalkKit
import Derived.ProofKit
import Derived.OpenShut
import Derived.ShutString
import Derived.ChangeOld
import Derived.Below
import Derived.Lib.Hide
import Derived.Laws.OwnMore
import Derived.OwnWalk
import Derived.Deep.Draws
import Derived.Deep.AppendLies
import Derived.Maps.AppendAt
import Derived.Laws.Rows
import Derived.RegionTactic
import Derived.Deep.QuietTactic
import Derived.BigQuiet
import Derived.Lib.AppendZerosOnto
import Derived.IntWalk
namespace Go.Proofs.Ytjefkpjjdloodaa
open Go.RowKit

theorem ret_int {k : IntKind} {a b : Int} (h : a = b) : Ending.returned (.int k a) = .returned (.int k b) := by rw [h]
theorem ret_bool {a b : Bool} (h : a = b) : Ending.returned (.bool a) = .returned (.bool b) := by rw [h]

def validB (a : Int) : Bool := decide (0 ≤ a) && decide (a < 991)
def pairZ (a b : Int) : Int := (31 * a + 17 * b + 5) % 991
def byteZ (d b : Int) : Int := (d * 257 + b + 1) % 991
theorem validB_iff (a : Int) : validB a = true ↔ 0 ≤ a ∧ a < 991 := by simp [validB]
theorem validB_not (a : Int) : validB a = false ↔ ¬ (0 ≤ a ∧ a < 991) := by rw [← validB_iff]; simp





set_option maxHeartbeats 400000 in
theorem in_yes (a lo hi : Int) (w : World) (h0 : lo ≤ a) (h1 : a ≤ hi) :
    Calls Try.prog 23 #[.int .i64 a, .int .i64 lo, .int .i64 hi] w fun e w' => e = .returned (.bool true) ∧ w = w' := by
  go_enter Try.func23, Try.ntmps23
  go_wp2
  go_ret
  exact ⟨rfl, rfl⟩

set_option maxHeartbeats 400000 in
theorem in_no (a lo hi : Int) (w : World) (h : ¬ (lo ≤ a ∧ a ≤ hi)) :
    Calls Try.prog 23 #[.int .i64 a, .int .i64 lo, .int .i64 hi] w fun e w' => e = .returned (.bool false) ∧ w = w' := by
  by_cases h0 : lo ≤ a
  · have h1 : ¬ a ≤ hi := by omega
    clear h
    go_enter Try.func23, Try.ntmps23
    go_wp2
    go_ret
    exact ⟨rfl, rfl⟩
  · clear h
    go_enter Try.func23, Try.ntmps23
    go_wp2
    go_ret
    exact ⟨rfl, rfl⟩









theorem pairZ_bd (a b : Int) : 0 ≤ pairZ a b ∧ pairZ a b < 991 := by unfold pairZ; omega
theorem pairZ_left (a x b : Int) (h : 0 ≤ a ∧ a < 991) (k : 0 ≤ x ∧ x < 991) (e : pairZ x b = pairZ a b) : x = a := by unfold pairZ at e; omega
theorem pairZ_right (a b y : Int) (h : 0 ≤ b ∧ b < 991) (k : 0 ≤ y ∧ y < 991) (e : pairZ a y = pairZ a b) : y = b := by unfold pairZ at e; omega
theorem pairZ_swap (a b : Int) (h : 0 ≤ a ∧ a < 991) (k : 0 ≤ b ∧ b < 991) (e : pairZ b a = pairZ a b) : a = b := by unfold pairZ at e; omega

end Go.Proofs.Ytjefkpjjdloodaa

namespace Go.Proofs.Ytjefkpjjdloodaa
open Go.RowKit

abbrev i64 (n : Int) : Value := .int .i64 n
/-- The k-th number. -/
def nth (zs : List Int) (k : Nat) : Int := zs.getD k 0
theorem nth_eq (zs : List Int) (k : Nat) : nth zs k = zs.getD k 0 := rfl
def vals (zs : List Int) : List Value := zs.map i64
theorem vals_length (zs : List Int) : (vals zs).length = zs.length := List.length_map _
theorem vals_append (a b : List Int) : vals (a ++ b) = vals a ++ vals b := List.map_append
theorem vals_one (zs : List Int) : ∀ u ∈ vals zs, u.oneCell' = true := by
  intro u hu
  obtain ⟨z, _, rfl⟩ := List.mem_map.1 hu
  rfl
theorem vals_get (zs : List Int) (k : Nat) (h : k < zs.length) : (vals zs)[k]? = some (i64 (nth zs k)) := by
  unfold vals nth
  rw [List.getElem?_map, List.getElem?_eq_getElem h, List.getD_eq_getElem?_getD, List.getElem?_eq_getElem h]
  rfl

/-- The slice at A begins with the numbers zs; its cells lie below block B. -/
def IntsAt (w : World) (B : Nat) (A : Option Addr) (zs : List Int) : Prop :=
  0 < zs.length → ∃ b o, A = some ⟨b, o, none⟩ ∧ b < B ∧ ∀ k, k < zs.length → w.cell? ⟨b, o + k, none⟩ = some (.int .i64 (nth zs k))

section
variable {w w' : World} {B B' : Nat} {A : Option Addr} {zs : List Int}
theorem IntsAt.nil : IntsAt w B A [] := fun h => absurd h (by simp)
theorem IntsAt.at_ (h : IntsAt w B A zs) (hn : 0 < zs.length) : ∃ b o, A = some ⟨b, o, none⟩ ∧ b < B ∧ ∀ k, k < zs.length → w.cell? ⟨b, o + k, none⟩ = some (.int .i64 (nth zs k)) := h hn
theorem IntsAt.keep (h : IntsAt w B A zs) (hk : ∀ p : Addr, p.block < B → w'.cell? p = w.cell? p) : IntsAt w' B A zs := fun hn => by
  obtain ⟨b, o, e, hb, hc⟩ := h hn
  exact ⟨b, o, e, hb, fun k hk' => (hk _ hb).trans (hc k hk')⟩
theorem IntsAt.more (h : IntsAt w B A zs) (hB : B ≤ B') : IntsAt w B' A zs := fun hn => by
  obtain ⟨b, o, e, hb, hc⟩ := h hn
  exact ⟨b, o, e, by omega, hc⟩
theorem IntsAt.below {C : Nat} (h : IntsAt w B A zs) (hb : Below C w w') (hC : B ≤ C) : IntsAt w' B A zs := h.keep fun _ hp => hb.cell (by omega)
theorem IntsAt.drewN (h : IntsAt w B A zs) (k : Nat) : IntsAt (w.drewN k) B A zs := h
theorem IntsAt.alloc (h : IntsAt w B A zs) (hB : B ≤ w.heap.size) (o : Obj) : IntsAt (w.alloc o) B A zs := h.keep fun p hp => World.cell?_alloc_lt w o p (by omega)
theorem IntsAt.allocS (h : IntsAt w w.heap.size A zs) (o : Obj) : IntsAt (w.alloc o) (w.alloc o).heap.size A zs := (h.alloc (Nat.le_refl _) o).more (by simp)
theorem IntsAt.belowS (h : IntsAt w w.heap.size A zs) (hb : Below w.heap.size w w') : IntsAt w' w'.heap.size A zs := (h.below hb (Nat.le_refl _)).more hb.size
theorem IntsAt.grown {row : Option Nat} (h : IntsAt w B A zs) (hg : w.grownBy w' row) (hB : B ≤ w.heap.size) (hr : ∀ g, row = some g → B ≤ g) : IntsAt w' B A zs :=
  h.keep fun p hp => World.cell?_of_block (hg.block p.block (by omega) (fun e => by have := hr _ e.symm; omega))
/-- A part of such a slice. -/
theorem IntsAt.part (h : IntsAt w B A zs) (s n : Nat) {b o : Nat} (hA : A = some ⟨b, o, none⟩) : IntsAt w B (some ⟨b, o + s, none⟩) ((zs.drop s).take n) := fun hn => by
  rw [List.length_take, List.length_drop] at hn
  obtain ⟨b', o', e, hb, hc⟩ := h (by omega)
  subst hA
  injection e with e
  injection e with e1 e2
  subst e1 e2
  refine ⟨b, o + s, rfl, hb, fun k hk => ?_⟩
  rw [List.length_take, List.length_drop] at hk
  rw [Nat.add_assoc, hc (s + k) (by omega), nth, nth, List.getD_eq_getElem?_getD, List.getD_eq_getElem?_getD, List.getElem?_take_of_lt (by omega), List.getElem?_drop]
theorem IntsAt.first (h : IntsAt w B A zs) (n : Nat) : IntsAt w B A (zs.take n) := fun hn => by
  rw [List.length_take] at hn
  obtain ⟨b, o, e, hb, hc⟩ := h (by omega)
  refine ⟨b, o, e, hb, fun k hk => ?_⟩
  rw [List.length_take] at hk
  rw [hc k (by omega), nth, nth, List.getD_eq_getElem?_getD, List.getD_eq_getElem?_getD, List.getElem?_take_of_lt (by omega)]
theorem IntsAt.lt {b o : Nat} (h : IntsAt w B (some ⟨b, o, none⟩) zs) (hn : 0 < zs.length) : b < B ∧ ∀ k, k < zs.length → w.cell? ⟨b, o + k, none⟩ = some (.int .i64 (nth zs k)) := by
  obtain ⟨b', o', e, hb, hc⟩ := h hn
  injection e with e
  injection e with e1 e2
  subst e1 e2
  exact ⟨hb, hc⟩
end

theorem below_drewN {B : Nat} {a w : World} (h : Below B a w) (n : Nat) : Below B a (w.drewN n) := ⟨h.os, h.tape, h.output, h.size, h.block⟩
theorem below_drew {B : Nat} {a w : World} (h : Below B a w) : Below B a w.drew := ⟨h.os, h.tape, h.output, h.size, h.block⟩
theorem grown_of_below {a w : World} (h : Below a.heap.size a w) (row : Option Nat) : a.grownBy w row := ⟨h.os, h.tape, h.output, h.size, fun i hi _ => h.block i hi⟩
theorem below_drew_l {B : Nat} {a w : World} (h : Below B a.drew w) : Below B a w := ⟨h.os, h.tape, h.output, h.size, h.block⟩
theorem below_drewN_l {B : Nat} {a w : World} {n : Nat} (h : Below B (a.drewN n) w) : Below B a w := ⟨h.os, h.tape, h.output, h.size, h.block⟩

/-- A slice of the call's own (from block base on) that holds the numbers zs. -/
def OwnInts (w : World) (base : Nat) (A : Option Addr) (cap : Nat) (zs : List Int) : Prop :=
  w.ownsRow base 3 1 (.slice A zs.length cap) zs.length (vals zs)
section
variable {w w' : World} {base : Nat} {A : Option Addr} {cap : Nat} {zs : List Int}
theorem OwnInts.ints (h : OwnInts w base A cap zs) : IntsAt w w.heap.size A zs := fun hn => by
  obtain ⟨g, c, hv, _, hlt⟩ := World.ownsRow.form h hn
  injection hv with hA _ _
  subst hA
  refine ⟨g, 0, rfl, hlt, fun k hk => ?_⟩
  have := World.ownsRow.cells h (g := g) rfl k (i64 (nth zs k)) (vals_get zs k hk)
  rw [Addr.add_lit] at this
  exact this
theorem OwnInts.le (h : OwnInts w base A cap zs) : zs.length ≤ cap ∧ cap ≤ maxLen := by
  rcases h.2 with ⟨hv, hn⟩ | ⟨g, c, cur, hv, _, _, h1, h2, _⟩
  · injection hv with _ _ hc; exact ⟨by omega, by omega⟩
  · injection hv with _ _ hc; subst hc; exact ⟨h1, h2⟩
theorem OwnInts.below (h : OwnInts w base A cap zs) (hb : Below w.heap.size w w') : OwnInts w' base A cap zs :=
  World.ownsRow.kept h (grown_of_below hb none) (by
    rcases h.2 with ⟨hv, _⟩ | ⟨g, c, cur, hv, _⟩
    · left; rw [hv]; rfl
    · right; rw [hv]; simp [Value.ownBlock])
theorem OwnInts.drewN (h : OwnInts w base A cap zs) (n : Nat) : OwnInts (w.drewN n) base A cap zs := h
/-- An empty slice that was just made. -/
theorem OwnInts.new (w : World) : OwnInts (w.alloc (.cells #[] 3)) w.heap.size (some ⟨w.heap.size, 0, none⟩) 0 [] :=
  World.ownsRow_lit w #[] 0 (Nat.le_refl _) (by simp [maxLen]) (by simp)
theorem OwnInts.base_le (h : OwnInts w base A cap zs) {b : Nat} (hb : b ≤ base) : OwnInts w b A cap zs := by
  refine ⟨h.1, ?_⟩
  rcases h.2 with h0 | ⟨g, c, cur, hv, hg, hr⟩
  · exact .inl h0
  · exact .inr ⟨g, c, cur, hv, by omega, hr⟩
end

/-- What a function hands back that makes a slice of integers: the numbers zs in memory of its own; nothing that was there is changed. -/
def RetInts (w : World) (zs : List Int) (e : Ending) (w' : World) : Prop :=
  ∃ A cap, e = .returned (.slice A zs.length cap) ∧ OwnInts w' w.heap.size A cap zs ∧ Below w.heap.size w w'

theorem int_info : (Try.prog.info? 3).map (fun i => (i.zero, i.size, i.bytes)) = some (some (.int .i64 0), 1, 8) := by kernel_rfl

end Go.Proofs.Ytjefkpjjdloodaa

namespace Go.Proofs.Ytjefkpjjdloodaa
open Go.RowKit
set_option linter.unusedVariables false

/-- What an append leaves. -/
structure Appended (W : World) (base : Nat) (A : Option Addr) (n c : Nat) (zs : List Int) (v : Value) (w' : World) : Prop where
  own : ∃ A' c', v = .slice A' zs.length c' ∧ OwnInts w' base A' c' zs
  grown : W.grownBy w' (Value.ownBlock (.slice A n c))
  below : Below base W w'

theorem OwnInts.far {w : World} {base : Nat} {A : Option Addr} {cap n : Nat} {zs : List Int} (h : OwnInts w base A cap zs) : ∀ g, Value.ownBlock (.slice A n cap) = some g → base ≤ g := by
  intro g hg
  rcases h.2 with ⟨hv, _⟩ | ⟨g', c, cur, hv, hb, _⟩
  · injection hv with hA _ _; subst hA; cases hg
  · injection hv with hA _ _; subst hA
    simp [Value.ownBlock] at hg
    omega
theorem OwnInts.alloc {w : World} {base : Nat} {A : Option Addr} {cap : Nat} {zs : List Int} (h : OwnInts w base A cap zs) (o : Obj) : OwnInts (w.alloc o) base A cap zs := World.ownsRow.alloc h o

set_option maxRecDepth 100000 in
theorem run_app_ints (W : World) (base ty : Nat) (A : Option Addr) (c : Nat) (ds : List Int) (B : Option Addr) (bc : Nat) (zs : List Int) (hown : OwnInts W base A c ds) (hI : IntsAt W W.heap.size B zs) (hl : ds.length + zs.length ≤ 2147483647) (hbase : base ≤ W.heap.size) (hB : B = none → bc = 0) :
    ∃ v w', (Builtin.append_ #[35, 35] ty #[.slice A ds.length c, .slice B zs.length bc]).run Try.prog W = .ok v w' ∧ Appended W base A ds.length c (ds ++ zs) v w' := by
  obtain ⟨i0, hi0, hz0, hz1, hz2⟩ := info_parts int_info
  rcases B with _ | ad
  · have h0 : zs = [] := by
      cases zs with
      | nil => rfl
      | cons z zs => obtain ⟨b, o, e, _⟩ := hI (by simp); cases e
    subst h0
    refine ⟨.slice A ds.length c, W, ?_, ⟨A, c, by simp, by simpa using hown⟩, World.grownBy.refl W _, Below.refl _ _⟩
    have hk := hown
    unfold OwnInts at hk
    rcases hk.2 with ⟨hv, hn⟩ | ⟨g, cap, cur, hv, _, _, hnc, _⟩
    · rw [hv]
      simp [Builtin.append_, run_underlying Try.underlying35, sizeOf, typeInfo, hi0, Builtin.lenOf, Builtin.firstCells]
    · rw [hv]
      simp [Builtin.append_, run_underlying Try.underlying35, sizeOf, typeInfo, hi0, Builtin.lenOf, Builtin.firstCells, hnc, storeCells]
  · have hcells : ∀ j u, (vals zs)[j]? = some u → W.cell? (ad.add j) = some u := by
      intro j u hu
      have hj : j < zs.length := by
        have := (List.getElem?_eq_some_iff.1 hu).1
        rwa [vals_length] at this
      obtain ⟨b, o, e, _, hc⟩ := hI (by omega)
      injection e with e
      subst e
      rw [vals_get zs j hj] at hu
      rw [Addr.add_lit, ← hu]
      exact hc j hj
    obtain ⟨v', w', hrun, h2, h3, _, h5⟩ := run_append_own_at (P := Try.prog) W base 35 ty 3 i0 _ 1 8 Try.underlying35 hi0 hz0 hz1 hz2 rfl (by omega) _ ds.length (vals ds) hown ad zs.length bc (vals zs) (by rw [vals_length, Nat.mul_one]) hcells (vals_one zs) (by unfold maxLen; omega) (by omega) hbase
    refine ⟨v', w', hrun, ?_, h3, (Below.refl _ _).grown h3 hbase (fun k hk => hown.far k hk)⟩
    rw [← vals_append] at h2
    rcases h2.2 with ⟨hv, hn⟩ | ⟨g, cap, cur, hv, hr⟩
    · refine ⟨none, 0, ?_, ?_⟩
      · rw [hv, List.length_append, hn]
      · unfold OwnInts; rw [List.length_append, hn]; rw [hn, hv] at h2; exact h2
    · refine ⟨some ⟨g, 0, none⟩, cap, ?_, ?_⟩
      · rw [hv, List.length_append]
      · unfold OwnInts; rw [List.length_append]; rw [hv] at h2; exact h2

theorem wp_app_ints {o : Oper} {a : Act} {K : Act → World → Prop} {Q : Exit → Act → World → Prop} (s x : Operand) (ho : o.op = .call { callee := .builtin .append, args := #[s, x], argTypes := #[35, 35] })
    (W : World) (base : Nat) (A : Option Addr) (c : Nat) (ds : List Int) (hs : a.eval s = .slice A ds.length c) (B : Option Addr) (bc : Nat) (zs : List Int) (hx : a.eval x = .slice B zs.length bc)
    (hown : OwnInts W base A c ds) (hI : IntsAt W W.heap.size B zs) (hl : ds.length + zs.length ≤ 2147483647) (hbase : base ≤ W.heap.size) (hB : B = none → bc = 0)
    (h : ∀ v w', Appended W base A ds.length c (ds ++ zs) v w' → K (a.put o.dst v) w') : o.wp Try.prog a W K Q := by
  obtain ⟨v', w', hrun, h2⟩ := run_app_ints W base o.type A c ds B bc zs hown hI hl hbase hB
  unfold Oper.wp execOp
  simp only [ho, resolve, invoke, builtin, Sem.run_bind, Sem.run_pure, Result.andThen_ok, List.map_toArray, List.map_cons, List.map_nil, hs, hx, hrun]
  exact h v' w' h2

theorem wpList_app_ints {ops : Array Oper} {rest : List Oper} {o : Oper} {a : Act} {Q : Exit → Act → World → Prop} (hgd : o.guard = none) (s x : Operand) (ho : o.op = .call { callee := .builtin .append, args := #[s, x], argTypes := #[35, 35] })
    (W : World) (base : Nat) (A : Option Addr) (c : Nat) (ds : List Int) (hs : a.eval s = .slice A ds.length c) (B : Option Addr) (bc : Nat) (zs : List Int) (hx : a.eval x = .slice B zs.length bc)
    (hown : OwnInts W base A c ds) (hI : IntsAt W W.heap.size B zs) (hl : ds.length + zs.length ≤ 2147483647) (hbase : base ≤ W.heap.size) (hB : B = none → bc = 0)
    (h : ∀ v w', Appended W base A ds.length c (ds ++ zs) v w' → wpList Try.prog ops Q rest (a.put o.dst v) w') : wpList Try.prog ops Q (o :: rest) a W :=
  wpList_plain hgd fun _ hK => wp_app_ints s x ho W base A c ds hs B bc zs hx hown hI hl hbase hB fun v' w' h2 => hK _ _ (h v' w' h2)

theorem step_app_ints {ops : Array Oper} {o : Oper} {a : Act} {K : Act → World → Prop} {Q : Exit → Act → World → Prop} {E : Prop} (hgd : o.guard = none) (s x : Operand) (ho : o.op = .call { callee := .builtin .append, args := #[s, x], argTypes := #[35, 35] })
    (W : World) (base : Nat) (A : Option Addr) (c : Nat) (ds : List Int) (hs : a.eval s = .slice A ds.length c) (B : Option Addr) (bc : Nat) (zs : List Int) (hx : a.eval x = .slice B zs.length bc)
    (hown : OwnInts W base A c ds) (hI : IntsAt W W.heap.size B zs) (hl : ds.length + zs.length ≤ 2147483647) (hbase : base ≤ W.heap.size) (hB : B = none → bc = 0)
    (h : ∀ v w', Appended W base A ds.length c (ds ++ zs) v w' → K (a.put o.dst v) w') :
    if Region.wanted o (yielded ops a.tmps) = true then Oper.wp Try.prog o a W K Q else E := by
  have hw : Region.wanted o (yielded ops a.tmps) = true := by simp [Region.wanted, hgd]
  rw [if_pos hw]
  exact wp_app_ints s x ho W base A c ds hs B bc zs hx hown hI hl hbase hB h

/-- One element that was just laid in a block of its own. -/
theorem one_new (W : World) (z : Int) : IntsAt (W.alloc (.cells #[.int .i64 z] 3)) (W.alloc (.cells #[.int .i64 z] 3)).heap.size (some ⟨W.heap.size, 0, none⟩) [z] := fun _ => by
  refine ⟨W.heap.size, 0, rfl, by simp, fun k hk => ?_⟩
  have : k = 0 := by simp at hk; omega
  subst this
  have := cell_one_new W (.int .i64 z) 3 0 (.int .i64 z) rfl
  rw [Addr.add_lit] at this
  exact this

end Go.Proofs.Ytjefkpjjdloodaa

namespace Go.Proofs.Ytjefkpjjdloodaa
open Go.RowKit
set_option linter.unusedVariables false

theorem eqi_take (a b : List Int) (k : Nat) (ha : k < a.length) (hb : k < b.length) (h : a.take k = b.take k) (e : nth a k = nth b k) : a.take (k + 1) = b.take (k + 1) := by
  rw [List.take_succ_eq_append_getElem ha, List.take_succ_eq_append_getElem hb, h]
  unfold nth at e
  rw [List.getD_eq_getElem?_getD, List.getD_eq_getElem?_getD, List.getElem?_eq_getElem ha, List.getElem?_eq_getElem hb] at e
  simp at e
  rw [e]
theorem eqi_ne (a b : List Int) (k : Nat) (e : nth a k ≠ nth b k) : decide (a = b) = false := by
  rw [decide_eq_false_iff_not]
  intro h
  subst h
  exact e rfl

set_option maxHeartbeats 1000000 in
theorem eqi_any (A : Option Addr) (cap : Nat) (xs : List Int) (A1 : Option Addr) (cap1 : Nat) (ys : List Int) (w : World) (hI : IntsAt w w.heap.size A xs) (hJ : IntsAt w w.heap.size A1 ys) (hm : xs.length ≤ maxLen) (hm1 : ys.length ≤ maxLen) :
    Calls Try.prog 20 #[.slice A xs.length cap, .slice A1 ys.length cap1] w fun e w' => e = .returned (.bool (decide (xs = ys))) ∧ ∃ q, w' = w.drewN q := by
  unfold maxLen at hm hm1
  have HI := Lib.hid hI
  have HJ := Lib.hid hJ
  clear hI hJ
  by_cases hl : xs.length = ys.length
  · obtain ⟨n, HN⟩ : ∃ n, Hid (xs.length = n) := ⟨_, rfl⟩
    have HN1 : Hid (ys.length = n) := by show _ = _; rw [← hl]; exact HN.out
    rw [HN.out] at hm ⊢
    rw [HN1.out] at hm1 ⊢
    clear hl
    go_enter Try.func20, Try.ntmps20
    go_wp2
    go_loopw [5] (fun i w' => ∃ k : Nat, k ≤ n ∧ i = .int .i64 k ∧ Hid (xs.take k = ys.take k) ∧ ∃ q, w' = w.drewN q) (fun i _ => n - (intOf i).toNat)
    case atStart => exact ⟨0, Nat.zero_le _, rfl, rfl, 0, rfl⟩
    case round =>
      obtain ⟨k, hk, rfl, HD, q, rfl⟩ := hrel
      by_cases hlt : k < n
      · have hlx : k < xs.length := by rw [HN.out]; exact hlt
        have hly : k < ys.length := by rw [HN1.out]; exact hlt
        obtain ⟨b, o, rfl, hb, hc⟩ := HI.out (by omega)
        obtain ⟨b1, o1, rfl, hb1, hc1⟩ := HJ.out (by omega)
        have hck := hc k hlx
        have hck1 := hc1 k hly
        have hk0 : (0 : Int) ≤ (k : Int) := by omega
        have hk1 : (k : Int) < (n : Int) := by omega
        by_cases hv : nth xs k = nth ys k
        · have HT : Hid (xs.take (k + 1) = ys.take (k + 1)) := eqi_take xs ys k hlx hly HD.out hv
          have hvb : (nth xs k != nth ys k) = false := by simp [hv]
          clear hc hc1 hlx hly hv
          go_wp2_with fail
          go_quiet (fail)
          go_wp2
          go_roundw
          case rel => exact ⟨k + 1, by omega, by go_num, HT, _, rfl⟩
          case measure => simp [intOf]; omega
        · have HE := Lib.hid (eqi_ne xs ys k hv)
          have hvb : (nth xs k != nth ys k) = true := by simp [hv]
          clear hc hc1 hlx hly hv
          go_wp2_with fail
          go_quiet (fail)
          go_wp2
          go_ret
          exact ⟨ret_bool HE.out.symm, _, by first | rfl | exact World.drewN_drewN _ _ _⟩
      · have HE : Hid (decide (xs = ys) = true) := by
          show _ = _
          rw [decide_eq_true_iff]
          have := HD.out
          rw [List.take_of_length_le (by rw [HN.out]; omega), List.take_of_length_le (by rw [HN1.out]; omega)] at this
          exact this
        go_wp2
        go_ret
        exact ⟨ret_bool HE.out.symm, _, rfl⟩
  · have HE : Hid (decide (xs = ys) = false) := by show _ = _; rw [decide_eq_false_iff_not]; exact fun e => hl (by rw [e])
    have hne : ((xs.length : Int) != (ys.length : Int)) = true := by simp; omega
    clear hl
    go_enter Try.func20, Try.ntmps20
    go_wp2
    go_ret
    exact ⟨ret_bool HE.out.symm, 0, rfl⟩

end Go.Proofs.Ytjefkpjjdloodaa

namespace Go.Proofs.Ytjefkpjjdloodaa
open Go.RowKit
set_option linter.unusedVariables false

def zerosZ (k : Nat) : List Int := List.replicate k 0
theorem zeroCells_vals (k : Nat) : (Builtin.zeroCells (Value.int .i64 0).cells k) = (vals (zerosZ k)).toArray := by
  apply Array.ext'
  simp [Builtin.zeroCells, Value.cells, vals, zerosZ]
  apply List.ext_getElem
  · simp
  · intro i h1 h2
    simp [Nat.mod_one]
theorem zerosZ_length (k : Nat) : (zerosZ k).length = k := List.length_replicate

set_option maxRecDepth 100000 in
theorem run_app_zeros (W : World) (base ty : Nat) (A : Option Addr) (c : Nat) (ds : List Int) (k : Nat) (hk : 0 < k) (hown : OwnInts W base A c ds) (hl : ds.length + k ≤ 1000000) (hbase : base ≤ W.heap.size) :
    ∃ v w', (Builtin.append_ #[35, 3] ty #[.slice A ds.length c, .int .i64 k]).run Try.prog W = .ok v w' ∧ Appended W base A ds.length c (ds ++ zerosZ k) v w' := by
  obtain ⟨i0, hi0, hz0, hz1, hz2⟩ := info_parts int_info
  have hlen : (ds ++ zerosZ k).length = ds.length + k := by rw [List.length_append, zerosZ_length]
  have hfar := fun g => hown.far (n := ds.length) g
  by_cases hroom : ds.length + k ≤ c
  · rcases hown.2 with ⟨hv, hn⟩ | ⟨g, cap, cur, hv, hbg, hg, hnc, hcm, hcs, htake⟩
    · injection hv with _ _ hc; omega
    · injection hv with hA _ hc
      subst hA hc
      rw [Nat.mul_one] at hcs htake
      have hst := run_storeCells_at Try.prog g (ds.length * 1) 3 (vals (zerosZ k)) 0 cur W hg (by rw [vals_length, zerosZ_length]; omega) (vals_one _)
      simp only [Nat.add_zero, Nat.mul_one] at hst
      have hneg : ¬ ((k : Int) < 0) := by omega
      have hw : IntKind.i64.wrap (k : Int) = k := IntWalk.i64_in _ (by omega)
      have h48i : ¬ (281474976710656 < (k : Int) * 8) := by omega
      have hk0 : ¬ k = 0 := by omega
      refine ⟨.slice (some ⟨g, 0, none⟩) (ds.length + k) c, W.setRow g (cur.toList.take ds.length ++ vals (zerosZ k) ++ cur.toList.drop (ds.length + (vals (zerosZ k)).length)).toArray, ?_, ?_⟩
      · simp [Builtin.append_, run_underlying Try.underlying35, run_underlying Try.underlying3, sizeOf, typeInfo, zeroValue, hi0, hz0, hz1, hz2, asInt, asIntOf, hw, hneg, h48i, hk0, hroom, Addr.add_lit, zeroCells_vals, hst]
      · refine ⟨⟨some ⟨g, 0, none⟩, c, by rw [hlen], ?_⟩, ⟨rfl, rfl, rfl, by simp, fun j _ hj => setRow_other W g j _ (fun e => hj (by simp [Value.ownBlock, e]))⟩, ⟨rfl, rfl, rfl, by simp, fun j hj => setRow_other W g j _ (by omega)⟩⟩
        unfold OwnInts
        rw [hlen]
        refine ⟨by rw [vals_length, hlen]; omega, .inr ⟨g, c, _, rfl, hbg, setRow_heap W g cur _ 3 _ hg, hroom, hcm, ?_, ?_⟩⟩
        · simp only [List.size_toArray, List.length_append, List.length_take, List.length_drop, Array.length_toList, vals_length, zerosZ_length]
          omega
        · rw [Nat.mul_one, htake, vals_append]
          have : ds.length + k = (vals ds ++ vals (zerosZ k)).length := by rw [List.length_append, vals_length, vals_length, zerosZ_length]
          rw [this]
          exact List.take_left
  · have hold : (Builtin.firstCells i0.size ds.length (.slice A ds.length c)).run Try.prog W.drew = .ok (vals ds).toArray W.drew := by
      rcases hown.2 with ⟨hv, hn⟩ | ⟨g, cap, cur, hv, hbg, hg, hnc, hcm, hcs, htake⟩
      · injection hv with hA _ _
        subst hA
        have : ds = [] := List.eq_nil_of_length_eq_zero hn
        subst this
        exact run_firstCells_none W.drew i0.size 0 0 c
      · injection hv with hA _ hc
        subst hA
        exact run_firstCells_some W.drew i0.size ds.length ⟨g, 0, none⟩ ds.length c (vals ds) (by rw [vals_length, hz1, Nat.mul_one]) (World.ownsRow.cells hown (g := g) rfl)
    have hr := Lib.run_append_grow_zeros (P := Try.prog) W 35 3 ty 3 i0 (.int .i64 0) .i64 .i64 Try.underlying35 Try.underlying3 hi0 hz0 A ds.length c (vals ds) hold k hk (by omega) (by omega) (by omega) (by rw [hz2]; omega) (by
      rw [hz2]
      exact growslice_fits (by omega) (by omega))
    refine ⟨_, _, hr, ?_⟩
    have hge := grownCap_ge W (ds.length + k) c 3
    have hcm : grownCap W (ds.length + k) c 3 ≤ maxLen := grownCap_le_maxLen W (ds.length + k) c 3 (by unfold maxLen; omega)
    refine ⟨⟨some ⟨W.heap.size, 0, none⟩, grownCap W (ds.length + k) c 3, by rw [hlen], ?_⟩, ⟨rfl, rfl, rfl, by simp, fun j hj _ => Below.heap_alloc W.drew _ j hj⟩, ⟨rfl, rfl, rfl, by simp, fun j hj => Below.heap_alloc W.drew _ j (by simp; omega)⟩⟩
    unfold OwnInts
    rw [hlen]
    refine ⟨by rw [vals_length, hlen]; omega, .inr ⟨W.heap.size, _, _, rfl, hbase, heap_alloc_new W.drew _, hge, hcm, ?_, ?_⟩⟩
    · rw [zeroCells_vals, zeroCells_vals]
      simp only [Array.size_append, List.size_toArray, vals_length, zerosZ_length]
      omega
    · rw [zeroCells_vals, zeroCells_vals, Nat.mul_one, vals_append]
      simp only [Array.toList_append]
      have : ds.length + k = (vals ds ++ vals (zerosZ k)).length := by rw [List.length_append, vals_length, vals_length, zerosZ_length]
      rw [this]
      exact List.take_left

theorem wpList_app_zeros {ops : Array Oper} {rest : List Oper} {o : Oper} {a : Act} {Q : Exit → Act → World → Prop} (hgd : o.guard = none) (s x : Operand) (ho : o.op = .call { callee := .builtin .append, args := #[s, x], argTypes := #[35, 3] })
    (W : World) (base : Nat) (A : Option Addr) (c : Nat) (ds : List Int) (hs : a.eval s = .slice A ds.length c) (k : Nat) (hk : 0 < k) (hx : a.eval x = .int .i64 k)
    (hown : OwnInts W base A c ds) (hl : ds.length + k ≤ 1000000) (hbase : base ≤ W.heap.size)
    (h : ∀ v w', Appended W base A ds.length c (ds ++ zerosZ k) v w' → wpList Try.prog ops Q rest (a.put o.dst v) w') : wpList Try.prog ops Q (o :: rest) a W := by
  obtain ⟨v', w', hrun, h2⟩ := run_app_zeros W base o.type A c ds k hk hown hl hbase
  exact Lib.wpList_append_run W hgd s x 35 3 ho _ _ hs hx v' w' hrun (h v' w' h2)

end Go.Proofs.Ytjefkpjjdloodaa

namespace Go.Proofs.Ytjefkpjjdloodaa
open Go.RowKit

theorem tmod_nat (a b : Nat) : ((a : Int)).tmod (b : Int) = ((a % b : Nat) : Int) := rfl
theorem tdiv_nat (a b : Nat) : ((a : Int)).tdiv (b : Int) = ((a / b : Nat) : Int) := rfl

theorem xor_small (a b : Int) (ha : 0 ≤ a) (ha2 : a < 4611686018427387904) (hb : 0 ≤ b) (hb2 : b < 4611686018427387904) : ∃ x : Nat, bits .xor .i64 a b = (x : Int) := by
  obtain ⟨A, rfl⟩ := Int.eq_ofNat_of_zero_le ha
  obtain ⟨C, rfl⟩ := Int.eq_ofNat_of_zero_le hb
  have hx : A ^^^ C < 2 ^ 62 := Nat.xor_lt_two_pow (by omega) (by omega)
  have one : ∀ m : Nat, m < 4611686018427387904 → (BitVec.ofInt 64 (m : Int)).toNat = m := by
    intro m hm
    rw [BitVec.ofInt_natCast, BitVec.toNat_ofNat]
    exact Nat.mod_eq_of_lt (by omega)
  refine ⟨A ^^^ C, ?_⟩
  show IntKind.i64.wrap ((BitVec.ofInt 64 (A : Int) ^^^ BitVec.ofInt 64 (C : Int)).toNat : Int) = _
  rw [BitVec.toNat_xor, one A (by omega), one C (by omega)]
  exact IntWalk.i64_in _ (by omega)

theorem rem_small (x : Nat) (n : Int) (hn : 1 ≤ n) : ∃ y : Nat, (x : Int).tmod n = (y : Int) ∧ (y : Int) < n := by
  obtain ⟨N, rfl⟩ := Int.eq_ofNat_of_zero_le (show 0 ≤ n by omega)
  refine ⟨x % N, tmod_nat x N, ?_⟩
  have := Nat.mod_lt x (show 0 < N by omega)
  omega

/-- The bytes of a slice: below block B, each a byte. -/
def BytesAt (w : World) (B : Nat) (A : Option Addr) (len : Nat) : Prop :=
  ∀ k, k < len → ∃ b o z, A = some ⟨b, o, none⟩ ∧ b < B ∧ w.cell? ⟨b, o + k, none⟩ = some (.int .u8 z) ∧ 0 ≤ z ∧ z < 256

















end Go.Proofs.Ytjefkpjjdloodaa

namespace Go.Proofs.Ytjefkpjjdloodaa
open Go.RowKit

/-- What is known of a slice of bytes that came in. -/
structure In (w : World) (A : Option Addr) (len cap : Nat) : Prop where
  bytes : BytesAt w w.heap.size A len
  le : len ≤ cap
  most : cap ≤ maxLen











end Go.Proofs.Ytjefkpjjdloodaa

namespace Go.Proofs.Ytjefkpjjdloodaa
open Go.RowKit

/-- A slice of integers that came in: nil, or a row of cap cells with the numbers zs, each fitting its kind. -/
def IsRow (k : IntKind) (w : World) (a : Option Addr) (len cap : Nat) (zs : List Int) : Prop :=
  (a = none ∧ len = 0 ∧ cap = 0 ∧ zs = []) ∨
  ∃ x, a = some x ∧ len ≤ cap ∧ cap ≤ maxLen ∧ zs.length = cap ∧ (∀ i, i < zs.length → w.cell? (x.add i) = some (.int k (zs.getD i 0))) ∧ ∀ n ∈ zs, (Lit.int k n).wf = true

theorem byte_of_wf {n : Int} (h : (Lit.int .u8 n).wf = true) : 0 ≤ n ∧ n < 256 := by
  simp [Lit.wf, IntKind.min, IntKind.max, IntKind.bits, IntKind.signed] at h
  omega

theorem In.of_row {w : World} {a : Option Addr} {len cap : Nat} {zs : List Int} (h : IsRow .u8 w a len cap zs) : In w a len cap := by
  rcases h with ⟨rfl, rfl, rfl, rfl⟩ | ⟨x, rfl, hl, hm, hz, hc, hw⟩
  · exact ⟨fun k hk => absurd hk (by omega), Nat.le_refl _, Nat.zero_le _⟩
  · refine ⟨fun k hk => ?_, hl, hm⟩
    have hk' : k < zs.length := by omega
    have hck := hc k hk'
    obtain ⟨b, o, sp⟩ := x
    have hs := World.cell?_spot (hc 0 (by omega))
    have hs0 : sp = none := by simpa [Addr.add] using hs
    subst hs0
    have hadd : (Addr.mk b o none).add k = ⟨b, o + k, none⟩ := by
      unfold Addr.add
      by_cases h0 : k = 0
      · subst h0; simp
      · simp [h0]
    rw [hadd] at hck
    have hmem : zs.getD k 0 ∈ zs := by
      rw [List.getD_eq_getElem?_getD, List.getElem?_eq_getElem hk']
      simp
    have hwf := byte_of_wf (hw _ hmem)
    exact ⟨b, o, _, rfl, World.block_lt_of_cell? w _ hck, hck, hwf.1, hwf.2⟩

theorem In.len_le {w : World} {a : Option Addr} {len cap : Nat} (h : In w a len cap) : len ≤ maxLen := Nat.le_trans h.le h.most

end Go.Proofs.Ytjefkpjjdloodaa
