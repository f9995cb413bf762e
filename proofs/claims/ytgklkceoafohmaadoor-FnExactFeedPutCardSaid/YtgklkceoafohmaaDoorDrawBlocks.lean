/- Contracts of l91Good and l91Blocks: a valid secret; at most 16 texts of at most 8 bytes in memory of the call's own; the reader moves on, and every other block lies as it lay. Condition: the reader's place is at most 50000; the code's bytes lie in memory. -/
import Derived.Test.YtgklkceoafohmaaDoorBaseC
import Derived.Test.YtgklkceoafohmaaDoorBaseH
namespace Go.Proofs.YtgklkceoafohmaaDoor
open Go.RowKit
set_option linter.unusedVariables false

theorem grown_then {w W w' : World} {row : Option Nat} (hg : w.grownBy W row) (hb : Below w.heap.size W w') : w.grownBy w' row :=
  ⟨hb.os.trans hg.os, hb.tape.trans hg.tape, hb.output.trans hg.output, Nat.le_trans hg.size hb.size, fun i hi hne => (hb.block i hi).trans (hg.block i hi hne)⟩
theorem grown_alloc {w W : World} {row : Option Nat} (hg : w.grownBy W row) (o : Obj) : w.grownBy (W.alloc o) row := World.grownBy.trans hg (grown_of_alloc W o row)
theorem Rd.then_ {w w' : World} {B g len cap p base : Nat} {A : Option Addr} (h : Rd w B g A len cap p) (hb : Below base w w') (hg : g < base) : Rd w' B g A len cap p :=
  h.keep (fun i hi => hb.block i (by have := h.big; omega)) (hb.block g hg)

def GoodDrawn (w : World) (B g : Nat) (A : Option Addr) (len cap p : Nat) (e : Ending) (w' : World) : Prop :=
  ∃ (d : Int) (p' : Nat), 1 ≤ d ∧ d ≤ 986 ∧ p' ≤ p + 2 ∧ e = .returned (.int .i64 d) ∧ Rd w' B g A len cap p' ∧ w.grownBy w' (some g)

set_option maxHeartbeats 1000000 in
theorem drawgood_any {B g len cap p : Nat} {A : Option Addr} {w : World} (hR : Rd w B g A len cap p) (hp : p ≤ 100000) :
    Calls Tryd.prog 27 #[.pointer (some ⟨g, 0, none⟩)] w (GoodDrawn w B g A len cap p) := by
  have HR := Lib.hid hR
  clear hR
  go_enter Tryd.func27, Tryd.ntmps27
  go_wp2_with fail
  refine (pick_any 99 HR.out (by omega) (by omega) (by omega)).mono ?_
  rintro e w1 ⟨x, hx, rfl, hR1, hg1, hz1⟩
  have HR1 := Lib.hid hR1
  have HG1 := Lib.hid hg1
  clear hR1 hg1 hz1
  go_wp2_with fail
  refine (pick_any 6 HR1.out (by omega) (by omega) (by omega)).mono ?_
  rintro e w2 ⟨y, hy, rfl, hR2, hg2, hz2⟩
  have HR2 := Lib.hid hR2
  have HG2 := Lib.hid (World.grownBy.trans HG1.out hg2)
  clear hR2 hg2 hz2
  go_wp2
  go_ret
  exact ⟨_, p + 1 + 1, by omega, by omega, by omega, rfl, HR2.out, HG2.out⟩

/-- Where the texts that are drawn stand. -/
structure Blocking (w : World) (B g : Nat) (A : Option Addr) (len cap p : Nat) (X : Option Addr) (c : Nat) (bs : List ByteArray) (w' : World) : Prop where
  own : OwnStrs w' w.heap.size X c bs
  short : ∀ x ∈ bs, x.size ≤ 8
  some_ : ∃ b, X = some ⟨b, 0, none⟩
  rd : Rd w' B g A len cap p
  grown : w.grownBy w' (some g)
theorem Blocking.app {w w1 w2 w3 : World} {B g len cap p p' : Nat} {A X : Option Addr} {c : Nat} {bs : List ByteArray} {t : ByteArray} {v : Value} (h : Blocking w B g A len cap p X c bs w1) (hgw : g < w.heap.size) (hR : Rd w2 B g A len cap p') (hg : w1.grownBy w2 (some g)) (ho : OwnStrs w2 w.heap.size X c bs) (ht : t.size ≤ 8) (o : Obj) (hA : AppendedS (w2.alloc o) w.heap.size X bs.length c (bs ++ [t]) v w3) : ∃ X' c', v = .slice X' (bs ++ [t]).length c' ∧ Blocking w B g A len cap p' X' c' (bs ++ [t]) w3 := by
  obtain ⟨⟨X', c', hv, ho3⟩, _, hb⟩ := hA
  refine ⟨X', c', hv, ho3, ?_, ?_, (hR.alloc o).then_ hb hgw, grown_then (grown_alloc (World.grownBy.trans h.grown hg) o) hb⟩
  · intro x hx
    rcases List.mem_append.1 hx with hx | hx
    · exact h.short x hx
    · have : x = t := by simpa using hx
      subst this; exact ht
  · obtain ⟨g', c'', hv', _, _⟩ := World.ownsRow.form ho3 (by simp)
    injection hv' with hA' _ _
    exact ⟨g', hA'⟩
/-- A row of texts of the call's own is kept where another block has turned. -/
theorem owns_keep {w w' : World} {base : Nat} {A : Option Addr} {cap : Nat} {zs : List ByteArray} (h : OwnStrs w base A cap zs) {row : Option Nat} (hg : w.grownBy w' row) (hr : ∀ k, row = some k → k < base) : OwnStrs w' base A cap zs := by
  refine World.ownsRow.kept h hg ?_
  rcases h.2 with ⟨hv, _⟩ | ⟨g, c, cur, hv, hb, _⟩
  · left; rw [hv]; rfl
  · right
    rw [hv]
    intro e
    have := hr g (by simpa [Value.ownBlock] using e.symm)
    omega
theorem ownbs_keep {w w' : World} {base : Nat} {A : Option Addr} {cap : Nat} {zs : List Bool} (h : OwnBools w base A cap zs) {row : Option Nat} (hg : w.grownBy w' row) (hr : ∀ k, row = some k → k < base) : OwnBools w' base A cap zs := by
  refine World.ownsRow.kept h hg ?_
  rcases h.2 with ⟨hv, _⟩ | ⟨g, c, cur, hv, hb, _⟩
  · left; rw [hv]; rfl
  · right
    rw [hv]
    intro e
    have := hr g (by simpa [Value.ownBlock] using e.symm)
    omega
theorem cut_size (t : ByteArray) : (t.extract 0 8).size ≤ 8 := by
  rw [ByteArray.size_extract]; omega

def BlocksDrawn (w : World) (B g : Nat) (A : Option Addr) (len cap p : Nat) (e : Ending) (w' : World) : Prop :=
  ∃ X c bs p', e = .returned (.slice X bs.length c) ∧ bs.length ≤ 16 ∧ p' ≤ p + 300 ∧ Blocking w B g A len cap p' X c bs w'

set_option maxHeartbeats 4000000 in
set_option maxRecDepth 100000 in
theorem drawblocks_any {B g len cap p : Nat} {A : Option Addr} {w : World} (hR : Rd w B g A len cap p) (hp : p ≤ 50000) :
    Calls Tryd.prog 28 #[.pointer (some ⟨g, 0, none⟩)] w (BlocksDrawn w B g A len cap p) := by
  have HR := Lib.hid hR
  have hB := hR.big
  have hgl := hR.lt
  clear hR
  go_enter Tryd.func28, Tryd.ntmps28
  go_wp2_with fail
  refine (pick_any 13 (HR.out.alloc _) (by omega) (by omega) (by omega)).mono ?_
  rintro e w1 ⟨n, hn, rfl, hR1, hg1, hz1⟩
  have HR1 := Lib.hid hR1
  have HG1 : Hid (w.grownBy w1 (some g)) := World.grownBy.trans (grown_of_alloc w _ _) hg1
  have HO1 : Hid (OwnStrs w1 w.heap.size (some ⟨w.heap.size, 0, none⟩) 0 []) := owns_keep (OwnStrs.new w) hg1 (fun k hk => by injection hk with hk; omega)
  clear hR1 hg1 hz1
  go_wp2_with fail
  refine (pick_any 8 HR1.out (by omega) (by omega) (by omega)).mono ?_
  rintro e w2 ⟨x, hx, rfl, hR2, hg2, hz2⟩
  have HS2 : Hid (Blocking w B g A len cap (p + 1 + 1) (some ⟨w.heap.size, 0, none⟩) 0 [] w2) := ⟨owns_keep HO1.out hg2 (fun k hk => by injection hk with hk; omega), by simp, ⟨_, rfl⟩, hR2, World.grownBy.trans HG1.out hg2⟩
  clear hR2 hg2 hz2
  by_cases h0 : x = 0
  · subst h0
    go_wp2_with fail
    go_loopw [3, 5] (fun o i w' => ∃ (k c p' : Nat) (X : Option Addr) (bs : List ByteArray), k ≤ 16 ∧ i = .int .i64 (k : Int) ∧ o = .slice X k c ∧ p' ≤ p + 2 + 14 * k ∧ Hid (bs.length = k) ∧ Hid (Blocking w B g A len cap p' X c bs w')) (fun _ i _ => 16 - (intOf i).toNat)
    case atStart => exact ⟨0, 0, _, _, [], Nat.zero_le _, rfl, rfl, by omega, rfl, HS2⟩
    case round =>
      obtain ⟨k, c, p', X, bs, hk, rfl, rfl, hp', HL, HS⟩ := hrel
      by_cases hlt : k < 16
      · have hki : (k : Int) < (16 : Int) := by omega
        go_wp2_with fail
        refine (drawtext_any HS.out.rd (by omega)).mono ?_
        rintro e w3 ⟨t, p3, ht, hp3, rfl, hR3, hg3⟩
        have HR3 := Lib.hid hR3
        have HG3 := Lib.hid hg3
        have HO3 : Hid (OwnStrs w3 w.heap.size X c bs) := owns_keep HS.out.own hg3 (fun k hk => by injection hk with hk; omega)
        have hz3 : w.heap.size ≤ w3.heap.size := Nat.le_trans HS.out.grown.size hg3.size
        clear hR3 hg3
        by_cases h8 : t.size ≤ 8
        · go_wp2_with (at_builtin; refine wpList_app_strs rfl (.tmp 25) (.tmp 27) rfl _ w.heap.size X c bs (by rw [HL.out]; rfl) _ _ [t] rfl (HO3.out.alloc _) (one_newS _ _) (by rw [HL.out]; simp; omega) (by simp; omega) (by simp) ?_; intro v w4 hA)
          obtain ⟨X', c', rfl, hS4⟩ := HS.out.app hgl HR3.out HG3.out HO3.out h8 _ hA
          have HS4 := Lib.hid hS4
          have hlen : (bs ++ [t]).length = k + 1 := by rw [List.length_append, HL.out]; rfl
          have HL4 := Lib.hid hlen
          rw [hlen]
          clear hA hS4 hlen
          go_wp2
          go_roundw
          case rel => exact ⟨k + 1, c', p3, X', _, by omega, by go_num, rfl, by omega, HL4, HS4⟩
          case measure => simp [intOf]; omega
        · have h9 : 8 < t.size := by omega
          have HC := Lib.hid (cut_size t)
          clear h8
          go_wp2_with (at_builtin; refine wpList_app_strs rfl (.tmp 25) (.tmp 27) rfl _ w.heap.size X c bs (by rw [HL.out]; rfl) _ _ [t.extract 0 8] rfl (HO3.out.alloc _) (one_newS _ _) (by rw [HL.out]; simp; omega) (by simp; omega) (by simp) ?_; intro v w4 hA)
          obtain ⟨X', c', rfl, hS4⟩ := HS.out.app hgl HR3.out HG3.out HO3.out HC.out _ hA
          have HS4 := Lib.hid hS4
          have hlen : (bs ++ [t.extract 0 8]).length = k + 1 := by rw [List.length_append, HL.out]; rfl
          have HL4 := Lib.hid hlen
          rw [hlen]
          clear hA hS4 hlen
          go_wp2
          go_roundw
          case rel => exact ⟨k + 1, c', p3, X', _, by omega, by go_num, rfl, by omega, HL4, HS4⟩
          case measure => simp [intOf]; omega
      · go_wp2
        go_ret
        exact ⟨X, c, bs, p', by rw [HL.out]; rfl, by rw [HL.out]; omega, by omega, HS.out⟩
  · have hx0 : ((x : Int) == 0) = false := beq_eq_false_iff_ne.2 (by omega)
    go_wp2_with fail
    go_loopw [3, 5] (fun o i w' => ∃ (k c p' : Nat) (X : Option Addr) (bs : List ByteArray), k ≤ n ∧ i = .int .i64 (k : Int) ∧ o = .slice X k c ∧ p' ≤ p + 2 + 14 * k ∧ Hid (bs.length = k) ∧ Hid (Blocking w B g A len cap p' X c bs w')) (fun _ i _ => n - (intOf i).toNat)
    case atStart => exact ⟨0, 0, _, _, [], Nat.zero_le _, rfl, rfl, by omega, rfl, HS2⟩
    case round =>
      obtain ⟨k, c, p', X, bs, hk, rfl, rfl, hp', HL, HS⟩ := hrel
      by_cases hlt : k < n
      · have hki : (k : Int) < (n : Int) := by omega
        go_wp2_with fail
        refine (drawtext_any HS.out.rd (by omega)).mono ?_
        rintro e w3 ⟨t, p3, ht, hp3, rfl, hR3, hg3⟩
        have HR3 := Lib.hid hR3
        have HG3 := Lib.hid hg3
        have HO3 : Hid (OwnStrs w3 w.heap.size X c bs) := owns_keep HS.out.own hg3 (fun k hk => by injection hk with hk; omega)
        have hz3 : w.heap.size ≤ w3.heap.size := Nat.le_trans HS.out.grown.size hg3.size
        clear hR3 hg3
        by_cases h8 : t.size ≤ 8
        · go_wp2_with (at_builtin; refine wpList_app_strs rfl (.tmp 25) (.tmp 27) rfl _ w.heap.size X c bs (by rw [HL.out]; rfl) _ _ [t] rfl (HO3.out.alloc _) (one_newS _ _) (by rw [HL.out]; simp; omega) (by simp; omega) (by simp) ?_; intro v w4 hA)
          obtain ⟨X', c', rfl, hS4⟩ := HS.out.app hgl HR3.out HG3.out HO3.out h8 _ hA
          have HS4 := Lib.hid hS4
          have hlen : (bs ++ [t]).length = k + 1 := by rw [List.length_append, HL.out]; rfl
          have HL4 := Lib.hid hlen
          rw [hlen]
          clear hA hS4 hlen
          go_wp2
          go_roundw
          case rel => exact ⟨k + 1, c', p3, X', _, by omega, by go_num, rfl, by omega, HL4, HS4⟩
          case measure => simp [intOf]; omega
        · have h9 : 8 < t.size := by omega
          have HC := Lib.hid (cut_size t)
          clear h8
          go_wp2_with (at_builtin; refine wpList_app_strs rfl (.tmp 25) (.tmp 27) rfl _ w.heap.size X c bs (by rw [HL.out]; rfl) _ _ [t.extract 0 8] rfl (HO3.out.alloc _) (one_newS _ _) (by rw [HL.out]; simp; omega) (by simp; omega) (by simp) ?_; intro v w4 hA)
          obtain ⟨X', c', rfl, hS4⟩ := HS.out.app hgl HR3.out HG3.out HO3.out HC.out _ hA
          have HS4 := Lib.hid hS4
          have hlen : (bs ++ [t.extract 0 8]).length = k + 1 := by rw [List.length_append, HL.out]; rfl
          have HL4 := Lib.hid hlen
          rw [hlen]
          clear hA hS4 hlen
          go_wp2
          go_roundw
          case rel => exact ⟨k + 1, c', p3, X', _, by omega, by go_num, rfl, by omega, HL4, HS4⟩
          case measure => simp [intOf]; omega
      · go_wp2
        go_ret
        exact ⟨X, c, bs, p', by rw [HL.out]; rfl, by rw [HL.out]; omega, by omega, HS.out⟩

end Go.Proofs.YtgklkceoafohmaaDoor
