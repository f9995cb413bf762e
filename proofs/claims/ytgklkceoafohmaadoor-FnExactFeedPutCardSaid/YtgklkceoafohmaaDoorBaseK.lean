/- Contract of bits.TrailingZeros at the powers of two up to 16. Condition: the table of the package holds what its text lays. Contract of climbTree: the tree above a leaf. Conditions: the leaf and its at most 4 siblings are digests. Contract of slices.Insert of one pointer into a slice of the call's own. Conditions: the index is in order; the pointer lies in a block of its own. Contract of TreeCheck: whether a proof shows a leaf. Conditions: the proof lies in memory; the table of math/bits holds what its text lays. Contract of the model's l2Digests. Condition: the list lies in memory. Contract of the model's TreeCheck: whether a proof shows a leaf. Condition: the proof lies in memory. -/
import Derived.Test.YtgklkceoafohmaaDoorBaseA
import Derived.Test.YtgklkceoafohmaaDoorBaseF
import Derived.Test.YtgklkceoafohmaaDoorBaseB
import Derived.Shelf.Spec.SlicesInsertGrow
namespace Go.Proofs.YtgklkceoafohmaaDoor
open Go.RowKit
set_option linter.unusedVariables false

/-- The cells of the table that are read. -/
structure Tab (w : World) : Prop where
  t0 : w.cell? ⟨1, 0, none⟩ = some (.int .u8 0)
  t1 : w.cell? ⟨1, 1, none⟩ = some (.int .u8 1)
  t3 : w.cell? ⟨1, 3, none⟩ = some (.int .u8 2)
  t7 : w.cell? ⟨1, 7, none⟩ = some (.int .u8 3)
  t15 : w.cell? ⟨1, 15, none⟩ = some (.int .u8 4)
theorem Tab.lt {w : World} (h : Tab w) : 1 < w.heap.size := World.block_lt_of_cell? w _ h.t0
theorem Tab.keep {w w' : World} (h : Tab w) (hk : ∀ j, w'.cell? ⟨1, j, none⟩ = w.cell? ⟨1, j, none⟩) : Tab w' :=
  ⟨(hk 0).trans h.t0, (hk 1).trans h.t1, (hk 3).trans h.t3, (hk 7).trans h.t7, (hk 15).trans h.t15⟩
theorem Tab.below {w w' : World} (h : Tab w) (hb : Below w.heap.size w w') : Tab w' := h.keep fun j => hb.cell (p := ⟨1, j, none⟩) h.lt
theorem Tab.belowAt {w w' : World} {B : Nat} (h : Tab w) (hb : Below B w w') (hB : 1 < B) : Tab w' := h.keep fun j => hb.cell (p := ⟨1, j, none⟩) hB
theorem Tab.alloc {w : World} (h : Tab w) (o : Obj) : Tab (w.alloc o) := h.keep fun j => World.cell?_alloc_lt w o _ h.lt

set_option maxHeartbeats 1000000 in
set_option maxRecDepth 100000 in
theorem tz64 (d : Nat) (w : World) (h : Tab w) (hd : d ≤ 4) :
    Calls Tryd.prog 103 #[.int .u64 ((2 ^ d : Nat) : Int)] w fun e w' => e = .returned (.int .i64 (d : Int)) ∧ w = w' := by
  obtain ⟨t0, t1, t3, t7, t15⟩ := h
  have : d = 0 ∨ d = 1 ∨ d = 2 ∨ d = 3 ∨ d = 4 := by omega
  rcases this with rfl | rfl | rfl | rfl | rfl
  · have e : IntKind.u64.wrap (bits .and .u64 1 (IntKind.u64.wrap (-1)) * 285870213051353865) / 288230376151711744 = 0 := by decide +kernel
    go_enter Tryd.func103, Tryd.ntmps103
    go_wp2
    go_ret
    exact ⟨rfl, rfl⟩
  · have e : IntKind.u64.wrap (bits .and .u64 2 (IntKind.u64.wrap (-2)) * 285870213051353865) / 288230376151711744 = 1 := by decide +kernel
    go_enter Tryd.func103, Tryd.ntmps103
    go_wp2
    go_ret
    exact ⟨rfl, rfl⟩
  · have e : IntKind.u64.wrap (bits .and .u64 4 (IntKind.u64.wrap (-4)) * 285870213051353865) / 288230376151711744 = 3 := by decide +kernel
    go_enter Tryd.func103, Tryd.ntmps103
    go_wp2
    go_ret
    exact ⟨rfl, rfl⟩
  · have e : IntKind.u64.wrap (bits .and .u64 8 (IntKind.u64.wrap (-8)) * 285870213051353865) / 288230376151711744 = 7 := by decide +kernel
    go_enter Tryd.func103, Tryd.ntmps103
    go_wp2
    go_ret
    exact ⟨rfl, rfl⟩
  · have e : IntKind.u64.wrap (bits .and .u64 16 (IntKind.u64.wrap (-16)) * 285870213051353865) / 288230376151711744 = 15 := by decide +kernel
    go_enter Tryd.func103, Tryd.ntmps103
    go_wp2
    go_ret
    exact ⟨rfl, rfl⟩

set_option maxHeartbeats 1000000 in
theorem tz_any (d : Nat) (w : World) (h : Tab w) (hd : d ≤ 4) :
    Calls Tryd.prog 55 #[.int .u64 ((2 ^ d : Nat) : Int)] w fun e w' => e = .returned (.int .i64 (d : Int)) ∧ w = w' := by
  have HT := Lib.hid h
  obtain ⟨n, HN⟩ : ∃ n : Nat, Hid (2 ^ d = n) := ⟨_, rfl⟩
  have C : Hid (Calls Tryd.prog 103 #[.int .u64 (n : Int)] w fun e w' => e = .returned (.int .i64 (d : Int)) ∧ w = w') := by
    have := tz64 d w h hd
    rw [HN.out] at this
    exact this
  rw [HN.out]
  clear h
  go_enter Tryd.func55, Tryd.ntmps55
  go_wp2_with fail
  refine C.out.mono ?_
  rintro e w' ⟨rfl, rfl⟩
  go_wp2
  go_ret
  exact ⟨rfl, rfl⟩

end Go.Proofs.YtgklkceoafohmaaDoor

namespace Go.Proofs.YtgklkceoafohmaaDoor
open Go.RowKit
set_option linter.unusedVariables false

/-- What climbTree hands back. -/
def Climbed (w : World) (r : Int) (s : Nat) (e : Ending) (w' : World) : Prop :=
  ∃ g x y, e = .returned (.pointer (some ⟨g, 0, none⟩)) ∧ Node w' g r (s : Int) x y ∧ Below w.heap.size w w'

/-- Where the loop stands. -/
structure ClimbAt (w : World) (ss : List Int) (i : Nat) (leaf : Int) (g k s : Nat) (t : Int) (w' : World) : Prop where
  node : ∃ x y, Node w' g t (s : Int) x y
  below : Below w.heap.size w w'
  rest : climbG pairZ (ss.drop k) s i t = climbG pairZ ss 1 i leaf
  pow : s = 2 ^ k
  bd : 0 ≤ t ∧ t < 991

theorem climb_bd : ∀ (ss : List Int) (s i : Nat) (t : Int), 0 ≤ t ∧ t < 991 → 0 ≤ climbG pairZ ss s i t ∧ climbG pairZ ss s i t < 991 := by
  intro ss
  induction ss with
  | nil => intro s i t h; exact h
  | cons r rs ih =>
    intro s i t h
    have e : climbG pairZ (r :: rs) s i t = climbG pairZ rs (2 * s) i (if i &&& s = 0 then pairZ t r else pairZ r t) := rfl
    rw [e]
    by_cases c : i &&& s = 0
    · rw [if_pos c]; exact ih _ _ _ (pairZ_bd _ _)
    · rw [if_neg c]; exact ih _ _ _ (pairZ_bd _ _)

set_option maxHeartbeats 4000000 in
set_option maxRecDepth 100000 in
theorem climb_any (leaf : Int) (i : Nat) (ss : List Int) (B : Option Addr) (c : Nat) (w : World) (hI : IntsAt w w.heap.size B ss) (hd : Digs ss) (hl0 : 0 ≤ leaf) (hl1 : leaf < 991) (hi : i ≤ 16) (h4 : ss.length ≤ 4) :
    Calls Tryd.prog 56 #[.int .i64 leaf, .int .i64 (i : Int), .slice B ss.length c] w (Climbed w (climbG pairZ ss 1 i leaf) (2 ^ ss.length)) := by
  have HI := Lib.hid hI
  have HD := Lib.hid hd
  obtain ⟨n, HN⟩ : ∃ n, Hid (ss.length = n) := ⟨_, rfl⟩
  rw [HN.out] at h4 ⊢
  clear hI hd
  go_enter Tryd.func56, Tryd.ntmps56
  go_wp2_with fail
  refine (known_any _ _ _).mono ?_
  rintro e w' ⟨rfl, rfl⟩
  go_wp2
  go_loopw [7, 15] (fun tr ix w' => ∃ (g k s : Nat) (t : Int), k ≤ n ∧ tr = .pointer (some ⟨g, 0, none⟩) ∧ ix = .int .i64 (k : Int) ∧ ClimbAt w ss i leaf g k s t w') (fun _ ix _ => n - (intOf ix).toNat)
  case atStart =>
    refine ⟨w.heap.size, 0, 1, leaf, by omega, rfl, rfl, ?_⟩
    exact ⟨⟨none, none, Blk.new w _ _⟩, (Below.refl _ _).alloc (Nat.le_refl _) _, rfl, rfl, hl0, hl1⟩
  case round =>
    obtain ⟨g, k, s, t, hk, rfl, rfl, hC⟩ := hrel
    have HC := Lib.hid hC
    obtain ⟨x, y, hn⟩ := hC.node
    obtain ⟨b0, b1⟩ := hC.bd
    clear hC
    by_cases hlt : k < n
    · have hkz : k < ss.length := by rw [HN.out]; exact hlt
      obtain ⟨b, o, rfl, hb, hcell⟩ := (HI.out.below HC.out.below (Nat.le_refl _)) (by omega)
      have hck := hcell k hkz
      obtain ⟨r0, r1⟩ := HD.out.at_ k hkz
      obtain ⟨r, HR⟩ : ∃ r, Hid (nth ss k = r) := ⟨_, rfl⟩
      rw [HR.out] at hck r0 r1
      have hs8 : s ≤ 8 := by
        rw [HC.out.pow]
        have : (2 : Nat) ^ k ≤ 2 ^ 3 := Nat.pow_le_pow_right (by omega) (by omega)
        omega
      have hs1 : 1 ≤ s := by rw [HC.out.pow]; exact Nat.pos_of_ne_zero (by simp)
      have c1 := hn.c1
      have HNO := Lib.hid hn
      have hgl : g < wr.heap.size := Blk.lt hn
      have hki : (k : Int) < (n : Int) := by omega
      obtain ⟨z, HZ⟩ : ∃ z : Nat, Hid (i &&& s = z) := ⟨_, rfl⟩
      have hbt : bits .and .i64 (i : Int) (s : Int) = (z : Int) := by rw [and_small i s (by omega) (by omega), HZ.out]
      have hdrop : ss.drop k = r :: ss.drop (k + 1) := by
        rw [List.drop_eq_getElem_cons hkz, ← HR.out, nth, List.getD_eq_getElem?_getD, List.getElem?_eq_getElem hkz]
        rfl
      have HREST : Hid (climbG pairZ (ss.drop (k + 1)) (2 * s) i (if z = 0 then pairZ t r else pairZ r t) = climbG pairZ ss 1 i leaf) := by
        show _ = _
        rw [← HC.out.rest, hdrop, ← HZ.out]
        rfl
      have HP : Hid (2 * s = 2 ^ (k + 1)) := by show _ = _; rw [Nat.pow_succ, ← HC.out.pow]; omega
      clear hn hcell hkz hdrop
      go_wp2_with fail
      refine (known_any _ _ _).mono ?_
      rintro e w' ⟨rfl, rfl⟩
      have hnA := HNO.out
      have HN1 : Hid (Node (wr.alloc (.cells #[.int .i64 r, .int .i64 (s : Int), .pointer none, .pointer none] 121)) g t (s : Int) x y) := Blk.alloc hnA _
      have HN2 : Hid (Node (wr.alloc (.cells #[.int .i64 r, .int .i64 (s : Int), .pointer none, .pointer none] 121)) wr.heap.size r (s : Int) none none) := Blk.new wr _ _
      have hbw : w.heap.size ≤ wr.heap.size := HC.out.below.size
      clear hnA
      by_cases hz : z = 0
      · subst hz
        have hbt0 : bits .and .i64 (i : Int) (s : Int) = 0 := hbt
        clear hbt
        go_wp2_with fail
        refine (pairT_any g wr.heap.size _ _ _ _ _ _ _ _ _ HN1.out HN2.out b0 b1 r0 r1 (by omega) (by omega) (by omega) (by omega)).mono ?_
        rintro e w3 ⟨g3, rfl, hn3, hg3, hb3⟩
        have HN3 := Lib.hid hn3
        have HB3 : Hid (Below w.heap.size w w3) := (HC.out.below.alloc hbw _).trans (hb3.mono (by simp; omega))
        clear hn3 hb3 hbt0
        go_wp2
        go_roundw
        case rel =>
          refine ⟨g3, k + 1, 2 * s, pairZ t r, by omega, rfl, by go_num, ?_, HB3.out, ?_, HP.out, pairZ_bd _ _⟩
          · refine ⟨some ⟨g, 0, none⟩, some ⟨wr.heap.size, 0, none⟩, ?_⟩
            have := HN3.out
            rw [show ((2 * s : Nat) : Int) = (s : Int) + (s : Int) from by omega]
            exact this
          · have := HREST.out
            simp only [if_true] at this
            exact this
        case measure => simp [intOf]; omega
      · have hzb : ((z : Int) == 0) = false := by simp; omega
        go_wp2_with fail
        refine (pairT_any wr.heap.size g _ _ _ _ _ _ _ _ _ HN2.out HN1.out r0 r1 b0 b1 (by omega) (by omega) (by omega) (by omega)).mono ?_
        rintro e w3 ⟨g3, rfl, hn3, hg3, hb3⟩
        have HN3 := Lib.hid hn3
        have HB3 : Hid (Below w.heap.size w w3) := (HC.out.below.alloc hbw _).trans (hb3.mono (by simp; omega))
        clear hn3 hb3 hbt hzb
        go_wp2
        go_roundw
        case rel =>
          refine ⟨g3, k + 1, 2 * s, pairZ r t, by omega, rfl, by go_num, ?_, HB3.out, ?_, HP.out, pairZ_bd _ _⟩
          · refine ⟨some ⟨wr.heap.size, 0, none⟩, some ⟨g, 0, none⟩, ?_⟩
            have := HN3.out
            rw [show ((2 * s : Nat) : Int) = (s : Int) + (s : Int) from by omega]
            exact this
          · have := HREST.out
            rw [if_neg hz] at this
            exact this
        case measure => simp [intOf]; omega
    · have hkn : k = n := by omega
      subst hkn
      have HT : Hid (t = climbG pairZ ss 1 i leaf) := by
        show _ = _
        rw [← HC.out.rest, List.drop_eq_nil_of_le (by rw [HN.out]; omega)]
        rfl
      have HNO := Lib.hid hn
      clear hn
      go_wp2
      go_ret
      refine ⟨g, x, y, rfl, ?_, HC.out.below⟩
      rw [← HT.out, ← HC.out.pow]
      exact HNO.out

end Go.Proofs.YtgklkceoafohmaaDoor

namespace Go.Proofs.YtgklkceoafohmaaDoor
open Go.RowKit
set_option linter.unusedVariables false

/-- What slices.Insert hands back. -/
def Inserted (w : World) (base : Nat) (gs : List Nat) (e : Ending) (w' : World) : Prop :=
  ∃ A c, e = .returned (.slice A gs.length c) ∧ OwnPtrs w' base A c gs ∧ Below base w w' ∧ Kept w w'

theorem insert_split {α : Type} (a : α) : ∀ (l : List α) (p : Nat), p ≤ l.length → l.insertIdx p a = l.take p ++ a :: l.drop p := by
  intro l
  induction l with
  | nil =>
    intro p hp
    have : p = 0 := by simpa using hp
    subst this
    rfl
  | cons b l ih =>
    intro p hp
    cases p with
    | zero => rfl
    | succ p =>
      rw [List.insertIdx_succ_cons, ih p (by simpa using hp)]
      rfl
theorem insert_ptrs (gs : List Nat) (p g : Nat) (hp : p ≤ gs.length) : (ptrs gs).take p ++ [ptr g] ++ (ptrs gs).drop p = ptrs (gs.insertIdx p g) := by
  unfold ptrs
  rw [insert_split g gs p hp, ← List.map_take, ← List.map_drop]
  simp
theorem setCells_drew (b : Nat) : ∀ (vs : List Value) (o : Nat) (w : World), (w.drew.setCells b o vs).heap = (w.setCells b o vs).heap := by
  intro vs
  induction vs with
  | nil => intro o w; rfl
  | cons v r ih => intro o w; exact ih (o + 1) (w.setCell ⟨b, o, none⟩ v)

theorem setCells_rest (b : Nat) : ∀ (vs : List Value) (o : Nat) (w : World), (w.setCells b o vs).os = w.os ∧ (w.setCells b o vs).tape = w.tape ∧ (w.setCells b o vs).output = w.output := by
  intro vs
  induction vs with
  | nil => intro o w; exact ⟨rfl, rfl, rfl⟩
  | cons v r ih => intro o w; exact ih (o + 1) (w.setCell ⟨b, o, none⟩ v)

set_option maxHeartbeats 4000000 in
set_option maxRecDepth 100000 in
theorem ins_end (gs : List Nat) (g : Nat) (base : Nat) (A : Option Addr) (c vb : Nat) (w : World) (hO : OwnPtrs w base A c gs) (hV : Blk w vb 80 #[ptr g]) (hn : gs.length ≤ 100) (hbase : base ≤ w.heap.size) :
    Calls Tryd.prog 60 #[.slice A gs.length c, .int .i64 (gs.length : Int), .slice (some ⟨vb, 0, none⟩) 1 1] w (Inserted w base (gs ++ [g])) := by
  have HO := Lib.hid hO
  have hle := hO.le
  have hm := hle.2
  have hcn : (gs.length : Int) ≤ (c : Int) := by have := hle.1; omega
  unfold maxLen at hm
  have HI : Hid (PtrsAt w w.heap.size (some ⟨vb, 0, none⟩) [g]) := fun _ => ⟨vb, 0, rfl, hV.lt, fun k hk => by
    have : k = 0 := by simp at hk; omega
    subst this
    exact hV.cell 0⟩
  obtain ⟨n, HN⟩ : ∃ n, Hid (gs.length = n) := ⟨_, rfl⟩
  rw [HN.out] at hcn hn ⊢
  have hz1 : ((1 : Int) == 0) = false := by decide
  clear hO hV hle
  go_enter Tryd.func60, Tryd.ntmps60
  go_wp2_with (at_builtin; refine wpList_app_ptrs rfl (.tmp 23) (.tmp 24) rfl _ base A c gs (by rw [HN.out]; rfl) _ _ [g] rfl HO.out HI.out (by rw [HN.out]; simp; omega) hbase (by simp) ?_; intro v w3 hA; have HKA := Lib.hid (Kept.appended (n := 0) HO.out hA); obtain ⟨⟨A3, c3, rfl, hown3⟩, hg3, hb3⟩ := hA; have HO3 := Lib.hid hown3; have HB3 := Lib.hid hb3; clear hown3 hg3 hb3)
  all_goals
    go_ret
    exact ⟨A3, c3, by simp, HO3.out, HB3.out, HKA.out⟩

/-- One element more of a row that has room. -/
theorem own_more {w : World} {base g n cap : Nat} {e : TypeId} {xs : List Value} (h : w.ownsRow base e 1 (.slice (some ⟨g, 0, none⟩) n cap) n xs) (hr : n + 1 ≤ cap) : ∃ u, w.ownsRow base e 1 (.slice (some ⟨g, 0, none⟩) (n + 1) cap) (n + 1) (xs ++ [u]) := by
  have h0 := h.1
  rcases h.2 with ⟨hv, _⟩ | ⟨g', c, cur, hv, hb, hh, h1, h2, h3, h4⟩
  · injection hv with hA _ _; cases hA
  · injection hv with hA _ hc
    injection hA with hA
    injection hA with hA _ _
    subst hA hc
    have hn : n < cur.toList.length := by rw [Array.length_toList]; omega
    refine ⟨cur.toList[n], by rw [List.length_append, h0]; simp, .inr ⟨g, cap, cur, rfl, hb, hh, hr, h2, h3, ?_⟩⟩
    rw [Nat.mul_one] at h4 ⊢
    rw [List.take_succ_eq_append_getElem hn, h4]

theorem list_shift {α : Type} (xs : List α) (u v : α) (p n : Nat) (hx : xs.length = n) (hp : p < n) :
    (((xs ++ [u]).take (p + 1) ++ xs.drop p ++ (xs ++ [u]).drop (p + 1 + (xs.drop p).length)).take p ++ [v] ++ ((xs ++ [u]).take (p + 1) ++ xs.drop p ++ (xs ++ [u]).drop (p + 1 + (xs.drop p).length)).drop (p + 1)) = xs.take p ++ [v] ++ xs.drop p := by
  have h1 : (xs ++ [u]).drop (p + 1 + (xs.drop p).length) = [] := List.drop_eq_nil_of_le (by simp; omega)
  have h2 : ((xs ++ [u]).take (p + 1)).length = p + 1 := by simp; omega
  rw [h1, List.append_nil, List.take_append_of_le_length (by omega), List.take_take, Nat.min_eq_left (by omega), List.take_append_of_le_length (by omega)]
  have h3 : ((xs ++ [u]).take (p + 1) ++ xs.drop p).drop (p + 1) = xs.drop p := by
    have := List.drop_left (l₁ := (xs ++ [u]).take (p + 1)) (l₂ := xs.drop p)
    rw [h2] at this
    exact this
  rw [h3]

set_option maxHeartbeats 4000000 in
set_option maxRecDepth 100000 in
theorem ins_shift (gs : List Nat) (p g base b c vb : Nat) (w : World) (hO : OwnPtrs w base (some ⟨b, 0, none⟩) c gs) (hV : Blk w vb 80 #[ptr g]) (hp : p < gs.length) (hroom : gs.length + 1 ≤ c) (hvb : vb ≠ b) (hn : gs.length ≤ 100) (hbase : base ≤ w.heap.size) :
    Calls Tryd.prog 60 #[.slice (some ⟨b, 0, none⟩) gs.length c, .int .i64 (p : Int), .slice (some ⟨vb, 0, none⟩) 1 1] w (Inserted w base (gs.insertIdx p g)) := by
  obtain ⟨i0, hi0, hz0, hzs, hz2⟩ := info_parts ptr_info
  have hsz : (Tryd.prog.info? 80).map (·.size) = some 1 := by rw [hi0]; simp [hzs]
  have hle := hO.le
  have hbb : base ≤ b := hO.far (n := 0) b rfl
  obtain ⟨cur, hcur, hcs⟩ : ∃ cur, Blk w b 80 cur ∧ cur.size = c := by
    rcases hO.2 with ⟨hv, _⟩ | ⟨g', c', cur, hv, hb, hh, h1, h2, h3, h4⟩
    · injection hv with hA _ _; cases hA
    · injection hv with hA _ hc
      injection hA with hA
      injection hA with hA _ _
      subst hA hc
      exact ⟨cur, hh, by rw [h3, Nat.mul_one]⟩
  have HCUR := Lib.hid hcur
  have hown0 : w.ownsRow base 80 1 (.slice (some ⟨b, 0, none⟩) gs.length c) gs.length (ptrs gs) := hO
  have hov : ∀ lb cb, (callFunc 107 #[.slice (some ⟨vb, 0, none⟩) 1 1, .slice (some ⟨b, p + 1, none⟩) lb cb]).run Tryd.prog w = .ok (.value (.bool false)) w := fun lb cb => by
    rw [run_callFunc_extern Tryd.func107 (by kernel_rfl) (by kernel_rfl) (by kernel_rfl) (e := Extern.SlicesOverlaps.overlaps #[82, 82] #[4]) (by kernel_rfl),
      Lib.run_overlaps_apart w 82 4 80 Tryd.underlying82 1 (fun w => by simp [sizeOf, typeInfo, hi0, hzs]) ⟨vb, 0, none⟩ ⟨b, p + 1, none⟩ 1 1 lb cb hvb 80 80 1 c (by unfold Blk at hV; simp [World.shape?, hV]) (by unfold Blk at hcur; simp [World.shape?, hcur, hcs]) (by omega) (by unfold Blk at hV; simp [World.frozen?, hV]) (by unfold Blk at hV; simp [World.frozen?, hV])]
    rfl
  obtain ⟨u, hmore⟩ := own_more hown0 hroom
  obtain ⟨n, HN⟩ : ∃ n, Hid (gs.length = n) := ⟨_, rfl⟩
  have hgn : gs.length = n := HN.out
  have hpl : (ptrs gs).length = n := by rw [ptrs_length, HN.out]
  have hdl : ((ptrs gs).drop p).length = n - p := by rw [List.length_drop, hpl]
  have hcp1 : ∀ ty dc sc, (Builtin.copy_ #[82, 82] ty #[.slice (some ⟨b, p + 1, none⟩) (n - p) dc, .slice (some ⟨b, p, none⟩) (n + 1 - p) sc]).run Tryd.prog w.drew = .ok (goInt ((ptrs gs).drop p).length) (w.drew.setCells b (p + 1) ((ptrs gs).drop p)) := fun ty dc sc =>
    run_copy_cells w.drew _ _ ty 80 b (p + 1) (n - p) dc ⟨b, p, none⟩ (n + 1 - p) sc ((ptrs gs).drop p) Tryd.underlying82 hsz (by rw [hdl]; simp only [Nat.min_def]; split <;> omega)
      (fun j v hj => by rw [Addr.add_lit]; rw [List.getElem?_drop] at hj; exact own_reads hown0 (p + j) v hj)
      (fun j hj => (own_cells hown0 _ (by rw [hdl] at hj; omega)).1) (fun j hj => (own_cells hown0 _ (by rw [hdl] at hj; omega)).2) (fun v hv => ptrs_one gs v (List.mem_of_mem_drop hv))
  obtain ⟨W1, HW1⟩ : ∃ W1, Hid (w.drew.setCells b (p + 1) ((ptrs gs).drop p) = W1) := ⟨_, rfl⟩
  have hm1 : W1.ownsRow base 80 1 (.slice (some ⟨b, 0, none⟩) (gs.length + 1) c) (gs.length + 1) (setMany (ptrs gs ++ [u]) (p + 1) ((ptrs gs).drop p)) ∧ w.grownBy W1 (some b) := by
    rw [← HW1.out]
    have h := own_setCells ((ptrs gs).drop p) (p + 1) w.drew _ hmore
    exact ⟨h.1, ⟨h.2.os, h.2.tape, h.2.output, h.2.size, h.2.block⟩⟩
  have hvW : Blk W1 vb 80 #[ptr g] := hV.grown hm1.2 (fun e => by injection e with e; exact hvb e)
  have hcp2 : ∀ (W : World), (∀ x, W.cell? x = W1.cell? x) → (∀ x, W.frozen? x = W1.frozen? x) → ∀ ty dc, (Builtin.copy_ #[82, 82] ty #[.slice (some ⟨b, p, none⟩) (n + 1 - p) dc, .slice (some ⟨vb, 0, none⟩) 1 1]).run Tryd.prog W = .ok (goInt [ptr g].length) (W.setCells b p [ptr g]) := fun W hWc hWf ty dc =>
    run_copy_cells W _ _ ty 80 b p (n + 1 - p) dc ⟨vb, 0, none⟩ 1 1 [ptr g] Tryd.underlying82 hsz (by simp only [Nat.min_def]; split <;> simp <;> omega)
      (fun j v hj => by
        have hj0 : j = 0 := by
          rcases j with _ | j
          · rfl
          · simp at hj
        subst hj0
        rw [Addr.add_lit, hWc]
        simp at hj
        subst hj
        exact hvW.cell 0)
      (fun j hj => by rw [hWc]; exact (own_cells hm1.1 _ (by simp at hj; omega)).1) (fun j hj => by rw [hWf]; exact (own_cells hm1.1 _ (by simp at hj; omega)).2) (fun v hv => by simp at hv; subst hv; rfl)
  have HEND : Hid (Inserted w base (gs.insertIdx p g) (.returned (.slice (some ⟨b, 0, none⟩) (n + 1) c)) (W1.setCells b p [ptr g])) := by
    have h2 := own_setCells [ptr g] p W1 _ hm1.1
    have e1 : setMany (setMany (ptrs gs ++ [u]) (p + 1) ((ptrs gs).drop p)) p [ptr g] = ptrs (gs.insertIdx p g) := by
      rw [setMany_eq [ptr g] _ p (by rw [setMany_length]; simp [hpl]; omega), setMany_eq _ _ (p + 1) (by rw [hdl]; simp [hpl]; omega)]
      have := list_shift (ptrs gs) u (ptr g) p n hpl (by omega)
      simp only [List.length_singleton]
      rw [this]
      exact insert_ptrs gs p g (by omega)
    have hlen : (gs.insertIdx p g).length = n + 1 := by rw [List.length_insertIdx_of_le_length (by omega), HN.out]
    rw [e1] at h2
    have hgr := World.grownBy.trans hm1.2 h2.2
    refine ⟨some ⟨b, 0, none⟩, c, by rw [hlen], ?_, (Below.refl base w).grown hgr hbase (fun k hk => by injection hk with hk; omega), ?_⟩
    · unfold OwnPtrs
      rw [hlen, ← HN.out]
      exact h2.1
    · exact fun g' r s x y hn' => Blk.grown hn' hgr (fun e => by injection e with e; exact Blk.ne_ hn' HCUR.out (by decide) e)
  have hz1 : ((1 : Int) == 0) = false := by decide
  have hm := hle.2
  unfold maxLen at hm
  rw [HN.out] at hp hroom hn ⊢
  have hz2' : ((p : Int) == (n : Int)) = false := by rw [beq_eq_false_iff_ne]; omega
  have hr1 : ¬ ((c : Int) < (n : Int) + 1) := by omega
  have hw1 : IntKind.i64.wrap ((p : Int) + 1) = (p : Int) + 1 := IntWalk.i64_in _ (by omega)
  have hb1 : (0 : Int) ≤ (p : Int) + 1 := by omega
  have htn : ((p : Int) + 1).toNat = p + 1 := by omega
  have hb2 : ¬ (c = p + 1) := by omega
  have hb3 : (p : Int) ≤ (n : Int) + 1 := by omega
  have hb4 : ¬ (c = p) := by omega
  have hb5 : (p : Int) + 1 ≤ (n : Int) + 1 := by omega
  have hb6 : (n : Int) + 1 ≤ (c : Int) := by omega
  have hb7 : (p : Int) ≤ (n : Int) := by omega
  have hb8 : (p : Int) ≤ (c : Int) := by omega
  rw [HW1.out] at hcp1
  clear hO hV hcur hown0 hmore hm1 hvW hle hdl hpl hgn
  go_enter Tryd.func60, Tryd.ntmps60
  go_wp2_with (simp only [hov])
  go_region_law (refine step_copy_runI rfl _ _ 82 82 rfl _ _ (by simp [Act.eval, Act.put]) (by simp [Act.eval, Act.put]) (hcp1 _ _ _) ?_)
  go_wp2_with (at_builtin; refine wpList_copy_runI _ rfl _ _ 82 82 rfl _ _ rfl rfl (hcp2 _ (fun _ => rfl) (fun _ => rfl) _ _) ?_)
  go_ret
  exact HEND.out


theorem nilCells (k : Nat) : (Builtin.zeroCells (Value.pointer none).cells k) = (List.replicate k (Value.pointer none)).toArray := by
  apply Array.ext'
  simp [Builtin.zeroCells, Value.cells]
  apply List.ext_getElem
  · simp
  · intro i h1 h2
    simp [Nat.mod_one]
theorem list_grow {α : Type} (xs zs : List α) (v : α) (p n : Nat) (hx : xs.length = n) (hp : p < n) (hz : zs.length = n + 1 - p) :
    ((xs.take p ++ zs).take p ++ [v] ++ (xs.take p ++ zs).drop (p + 1)).take (p + 1) ++ xs.drop p ++ ((xs.take p ++ zs).take p ++ [v] ++ (xs.take p ++ zs).drop (p + 1)).drop (p + 1 + (xs.drop p).length) = xs.take p ++ [v] ++ xs.drop p := by
  have h1 : (xs.take p).length = p := by rw [List.length_take]; omega
  have h2 : (xs.take p ++ zs).take p = xs.take p := by
    have := List.take_left (l₁ := xs.take p) (l₂ := zs)
    rw [h1] at this
    exact this
  rw [h2]
  have h3 : (xs.take p ++ [v]).length = p + 1 := by rw [List.length_append, h1]; rfl
  have h4 : (xs.take p ++ [v] ++ (xs.take p ++ zs).drop (p + 1)).take (p + 1) = xs.take p ++ [v] := by
    have := List.take_left (l₁ := xs.take p ++ [v]) (l₂ := (xs.take p ++ zs).drop (p + 1))
    rw [h3] at this
    exact this
  rw [h4]
  have h5 : (xs.take p ++ [v] ++ (xs.take p ++ zs).drop (p + 1)).drop (p + 1 + (xs.drop p).length) = [] := by
    apply List.drop_eq_nil_of_le
    rw [List.length_append, h3, List.length_drop, List.length_append, h1, hz, List.length_drop]
    omega
  rw [h5, List.append_nil]

set_option maxHeartbeats 4000000 in
set_option maxRecDepth 100000 in
theorem ins_grow (gs : List Nat) (p g base b c vb : Nat) (w : World) (hO : OwnPtrs w base (some ⟨b, 0, none⟩) c gs) (hV : Blk w vb 80 #[ptr g]) (hp : p < gs.length) (hroom : c < gs.length + 1) (hn : gs.length ≤ 100) (hbase : base ≤ w.heap.size) :
    Calls Tryd.prog 60 #[.slice (some ⟨b, 0, none⟩) gs.length c, .int .i64 (p : Int), .slice (some ⟨vb, 0, none⟩) 1 1] w (Inserted w base (gs.insertIdx p g)) := by
  obtain ⟨i0, hi0, hz0, hzs, hzb⟩ := info_parts ptr_info
  have hsz : (Tryd.prog.info? 80).map (·.size) = some 1 := by rw [hi0]; simp [hzs]
  have hle := hO.le
  have hown0 : w.ownsRow base 80 1 (.slice (some ⟨b, 0, none⟩) gs.length c) gs.length (ptrs gs) := hO
  have hbw : b < w.heap.size := (hO.ints.lt (by omega)).1
  have hvw : vb < w.heap.size := hV.lt
  obtain ⟨n, HN⟩ : ∃ n, Hid (gs.length = n) := ⟨_, rfl⟩
  have hgn : gs.length = n := HN.out
  have hpl : (ptrs gs).length = n := by rw [ptrs_length, HN.out]
  have hdl : ((ptrs gs).drop p).length = n - p := by rw [List.length_drop, hpl]
  have hik : p + (n + 1 - p) = n + 1 := by omega
  have hold : (Builtin.firstCells i0.size p (.slice (some ⟨b, 0, none⟩) p c)).run Tryd.prog w.drew = .ok ((ptrs gs).take p).toArray w.drew := by
    rw [hzs]
    exact run_firstCells_some w.drew 1 p ⟨b, 0, none⟩ p c ((ptrs gs).take p) (by rw [List.length_take, hpl]; omega) (fun j v hj => by
      rw [Addr.add_lit, Nat.zero_add]
      rw [List.getElem?_take] at hj
      split at hj
      · exact own_reads hown0 j v hj
      · cases hj)
  obtain ⟨G, HG⟩ : ∃ G, Hid (grownCap w (n + 1) c 80 = G) := ⟨_, rfl⟩
  obtain ⟨ROW, HROW⟩ : ∃ ROW : Array Value, Hid (((ptrs gs).take p).toArray ++ Builtin.zeroCells (Value.pointer none).cells (n + 1 - p) ++ Builtin.zeroCells (Value.pointer none).cells (G - (n + 1)) = ROW) := ⟨_, rfl⟩
  have hrz : ∀ ty, (Builtin.append_ #[82, 3] ty #[.slice (some ⟨b, 0, none⟩) p c, .int .i64 ((n : Int) + 1 - (p : Int))]).run Tryd.prog w = .ok (.slice (some ⟨w.heap.size, 0, none⟩) (n + 1) G) (w.drew.alloc (.cells ROW 80)) := fun ty => by
    have h := Lib.run_append_grow_zeros (P := Tryd.prog) w 82 3 ty 80 i0 _ .i64 .i64 Tryd.underlying82 Tryd.underlying3 hi0 hz0 (some ⟨b, 0, none⟩) p c ((ptrs gs).take p) hold (n + 1 - p) (by omega) (by omega) (by omega) (by omega) (by rw [hzb]; omega) (by rw [hzb, hik]; exact growslice_fits (by omega) (by omega))
    rw [hik, HG.out, HROW.out] at h
    rw [show (n : Int) + 1 - (p : Int) = ((n + 1 - p : Nat) : Int) from by omega]
    exact h
  have hGn : n + 1 ≤ G := by rw [← HG.out]; exact grownCap_ge w _ _ _
  have hGm : G ≤ maxLen := by rw [← HG.out]; exact grownCap_le_maxLen w (n + 1) c 80 (by unfold maxLen; omega)
  obtain ⟨W1, HW1⟩ : ∃ W1, Hid (w.drew.alloc (.cells ROW 80) = W1) := ⟨_, rfl⟩
  have hRs : ROW.size = G := by
    rw [← HROW.out, nilCells, nilCells]
    simp only [Array.size_append, List.size_toArray, List.length_take, List.length_replicate, hpl]
    omega
  have hRt : ROW.toList.take (n + 1) = (ptrs gs).take p ++ List.replicate (n + 1 - p) (.pointer none) := by
    rw [← HROW.out, nilCells, nilCells]
    simp only [Array.toList_append]
    exact List.take_left' (by rw [List.length_append, List.length_take, List.length_replicate, hpl]; omega)
  have hown1 : W1.ownsRow base 80 1 (.slice (some ⟨w.heap.size, 0, none⟩) (n + 1) G) (n + 1) ((ptrs gs).take p ++ List.replicate (n + 1 - p) (.pointer none)) := by
    rw [← HW1.out]
    refine ⟨by rw [List.length_append, List.length_take, List.length_replicate, hpl]; omega, .inr ⟨w.heap.size, G, ROW, rfl, hbase, heap_alloc_new w.drew _, hGn, hGm, by rw [hRs, Nat.mul_one], by rw [Nat.mul_one]; exact hRt⟩⟩
  have hgr1 : w.grownBy W1 (some w.heap.size) := by
    rw [← HW1.out]
    exact ⟨rfl, rfl, rfl, by simp, fun i hi _ => Below.heap_alloc w.drew _ i hi⟩
  have hvW : Blk W1 vb 80 #[ptr g] := hV.grown hgr1 (fun e => by injection e with e; omega)
  have hO1 : ∀ j v, (ptrs gs)[j]? = some v → W1.cell? ⟨b, j, none⟩ = some v := fun j v h => by
    rw [← HW1.out]
    exact (World.cell?_alloc_lt w.drew _ ⟨b, j, none⟩ hbw).trans (own_reads hown0 j v h)
  have hcpA : ∀ (W : World), (∀ x, W.cell? x = W1.cell? x) → (∀ x, W.frozen? x = W1.frozen? x) → ∀ ty dc, (Builtin.copy_ #[82, 82] ty #[.slice (some ⟨w.heap.size, p, none⟩) (n + 1 - p) dc, .slice (some ⟨vb, 0, none⟩) 1 1]).run Tryd.prog W = .ok (goInt [ptr g].length) (W.setCells w.heap.size p [ptr g]) := fun W hWc hWf ty dc =>
    run_copy_cells W _ _ ty 80 w.heap.size p (n + 1 - p) dc ⟨vb, 0, none⟩ 1 1 [ptr g] Tryd.underlying82 hsz (by simp only [Nat.min_def]; split <;> simp <;> omega)
      (fun j v hj => by
        have hj0 : j = 0 := by
          rcases j with _ | j
          · rfl
          · simp at hj
        subst hj0
        rw [Addr.add_lit, hWc]
        simp at hj
        subst hj
        exact hvW.cell 0)
      (fun j hj => by rw [hWc]; exact (own_cells hown1 _ (by simp at hj; omega)).1) (fun j hj => by rw [hWf]; exact (own_cells hown1 _ (by simp at hj; omega)).2) (fun v hv => by simp at hv; subst hv; rfl)
  obtain ⟨W2, HW2⟩ : ∃ W2, Hid (W1.setCells w.heap.size p [ptr g] = W2) := ⟨_, rfl⟩
  have hown2 : W2.ownsRow base 80 1 (.slice (some ⟨w.heap.size, 0, none⟩) (n + 1) G) (n + 1) (setMany ((ptrs gs).take p ++ List.replicate (n + 1 - p) (.pointer none)) p [ptr g]) ∧ W1.grownBy W2 (some w.heap.size) := by
    rw [← HW2.out]; exact own_setCells [ptr g] p W1 _ hown1
  have hcpB : ∀ (W : World), (∀ x, W.cell? x = W2.cell? x) → (∀ x, W.frozen? x = W2.frozen? x) → ∀ ty dc sc, (Builtin.copy_ #[82, 82] ty #[.slice (some ⟨w.heap.size, p + 1, none⟩) (n - p) dc, .slice (some ⟨b, p, none⟩) (n - p) sc]).run Tryd.prog W = .ok (goInt ((ptrs gs).drop p).length) (W.setCells w.heap.size (p + 1) ((ptrs gs).drop p)) := fun W hWc hWf ty dc sc =>
    run_copy_cells W _ _ ty 80 w.heap.size (p + 1) (n - p) dc ⟨b, p, none⟩ (n - p) sc ((ptrs gs).drop p) Tryd.underlying82 hsz (by rw [hdl]; simp only [Nat.min_def]; split <;> omega)
      (fun j v hj => by
        rw [Addr.add_lit, hWc]
        rw [List.getElem?_drop] at hj
        rw [← HW2.out, World.cell?_setCells_out _ _ _ _ _ (fun h _ => by exact absurd h (by show b ≠ w.heap.size; omega))]
        exact hO1 (p + j) v hj)
      (fun j hj => by rw [hWc]; exact (own_cells hown2.1 _ (by rw [hdl] at hj; omega)).1) (fun j hj => by rw [hWf]; exact (own_cells hown2.1 _ (by rw [hdl] at hj; omega)).2) (fun v hv => ptrs_one gs v (List.mem_of_mem_drop hv))
  have HEND : Hid (∀ W : World, W.heap = (W2.setCells w.heap.size (p + 1) ((ptrs gs).drop p)).heap → W.os = W2.os → W.tape = W2.tape → W.output = W2.output → Inserted w base (gs.insertIdx p g) (.returned (.slice (some ⟨w.heap.size, 0, none⟩) (n + 1) G)) W) := fun W hW ho htp hou => by
    have h2 := own_setCells ((ptrs gs).drop p) (p + 1) W2 _ hown2.1
    have e1 : setMany (setMany ((ptrs gs).take p ++ List.replicate (n + 1 - p) (.pointer none)) p [ptr g]) (p + 1) ((ptrs gs).drop p) = ptrs (gs.insertIdx p g) := by
      rw [setMany_eq _ _ (p + 1) (by rw [setMany_length, hdl, List.length_append, List.length_take, List.length_replicate, hpl]; omega), setMany_eq [ptr g] _ p (by rw [List.length_append, List.length_take, List.length_replicate, hpl]; simp; omega)]
      have := list_grow (ptrs gs) (List.replicate (n + 1 - p) (.pointer none)) (ptr g) p n hpl (by omega) List.length_replicate
      simp only [List.length_singleton]
      rw [this]
      exact insert_ptrs gs p g (by omega)
    have hlen : (gs.insertIdx p g).length = n + 1 := by rw [List.length_insertIdx_of_le_length (by omega), HN.out]
    rw [e1] at h2
    have h3 := World.grownBy.trans (World.grownBy.trans hgr1 hown2.2) h2.2
    have h4 := World.grownBy.trans hgr1 hown2.2
    have hgr : w.grownBy W (some w.heap.size) := ⟨ho.trans h4.os, htp.trans h4.tape, hou.trans h4.output, by rw [hW]; exact h3.size, fun i hi hne => by rw [hW]; exact h3.block i hi hne⟩
    refine ⟨some ⟨w.heap.size, 0, none⟩, G, by rw [hlen], ?_, (Below.refl base w).grown hgr hbase (fun k hk => by injection hk with hk; omega), ?_⟩
    · unfold OwnPtrs
      rw [hlen]
      refine ⟨h2.1.1, ?_⟩
      rcases h2.1.2 with h0 | ⟨g', c', cu, hv, hb, hh, hr⟩
      · exact .inl h0
      · exact .inr ⟨g', c', cu, hv, hb, by rw [hW]; exact hh, hr⟩
    · exact fun g' r s x y hn' => Blk.grown hn' hgr (fun e => by injection e with e; have := Blk.lt hn'; omega)
  have hz1 : ((1 : Int) == 0) = false := by decide
  have hm := hle.2
  have hle1 := hle.1
  have hGm' := hGm
  unfold maxLen at hm hGm'
  rw [HN.out] at hp hroom hn hle1 ⊢
  have hz2' : ((p : Int) == (n : Int)) = false := by rw [beq_eq_false_iff_ne]; omega
  have hr1 : (c : Int) < (n : Int) + 1 := by omega
  have hw1 : IntKind.i64.wrap ((p : Int) + 1) = (p : Int) + 1 := IntWalk.i64_in _ (by omega)
  have hb1 : (0 : Int) ≤ (p : Int) + 1 := by omega
  have htn : ((p : Int) + 1).toNat = p + 1 := by omega
  have hGi : ¬ (G = p) := by omega
  have hGim : ¬ (G = p + 1) := by omega
  have hci : ¬ (c = p) := by omega
  have hb3 : (p : Int) ≤ (n : Int) := by omega
  have hb5 : (p : Int) ≤ (n : Int) + 1 := by omega
  have hb6 : (p : Int) + 1 ≤ (n : Int) + 1 := by omega
  have hb8 : (p : Int) ≤ (c : Int) := by omega
  rw [HW1.out] at hrz
  clear hO hV hown0 hown1 hown2 hvW hle hdl hpl hgn hold hRs hRt hgr1 hO1 hik
  have hw2 := HW2.out
  subst hw2
  clear HW2
  go_enter Tryd.func60, Tryd.ntmps60
  go_wp2_with (first
    | (at_builtin; refine Lib.wpList_append_run _ rfl _ _ _ _ rfl _ _ rfl rfl _ _ (hrz _) ?_)
    | (at_builtin; refine wpList_copy_runI _ rfl _ _ 82 82 rfl _ _ rfl rfl (hcpA _ (fun _ => rfl) (fun _ => rfl) _ _) ?_))
  go_region_law (refine step_copy_runI rfl _ _ 82 82 rfl (.slice (some ⟨w.heap.size, p + 1, none⟩) (n - p) (G - (p + 1))) (.slice (some ⟨b, p, none⟩) (n - p) (c - p)) (by simp [Act.eval, Act.put]) (by simp [Act.eval, Act.put]) (hcpB (W1.setCells w.heap.size p [ptr g]).drew (fun _ => rfl) (fun _ => rfl) 3 (G - (p + 1)) (c - p)) ?_)
  go_wp2
  go_ret
  have hrest := setCells_rest w.heap.size ((ptrs gs).drop p) (p + 1) (W1.setCells w.heap.size p [ptr g]).drew
  exact HEND.out _ (setCells_drew _ _ _ _) hrest.1 hrest.2.1 hrest.2.2

theorem ins_any (gs : List Nat) (p g base : Nat) (A : Option Addr) (c vb : Nat) (w : World) (hO : OwnPtrs w base A c gs) (hV : Blk w vb 80 #[ptr g]) (hp : p ≤ gs.length) (hvb : ∀ b, A = some ⟨b, 0, none⟩ → vb ≠ b) (hn : gs.length ≤ 100) (hbase : base ≤ w.heap.size) :
    Calls Tryd.prog 60 #[.slice A gs.length c, .int .i64 (p : Int), .slice (some ⟨vb, 0, none⟩) 1 1] w (Inserted w base (gs.insertIdx p g)) := by
  by_cases he : p = gs.length
  · subst he
    have : gs.insertIdx gs.length g = gs ++ [g] := by
      rw [insert_split g gs gs.length (Nat.le_refl _), List.take_of_length_le (Nat.le_refl _), List.drop_eq_nil_of_le (Nat.le_refl _)]
    rw [this]
    exact ins_end gs g base A c vb w hO hV hn hbase
  · obtain ⟨b, hA⟩ : ∃ b, A = some ⟨b, 0, none⟩ := by
      rcases hO.2 with ⟨hv, h0⟩ | ⟨g', cap, cur, hv, hb, hh, _⟩
      · omega
      · injection hv with hA _ _
        exact ⟨g', hA⟩
    subst hA
    by_cases hr : gs.length + 1 ≤ c
    · exact ins_shift gs p g base b c vb w hO hV (by omega) hr (hvb b rfl) hn hbase
    · exact ins_grow gs p g base b c vb w hO hV (by omega) (by omega) hn hbase

end Go.Proofs.YtgklkceoafohmaaDoor

namespace Go.Proofs.YtgklkceoafohmaaDoor
open Go.RowKit
set_option linter.unusedVariables false

/-- The arguments of a check that can be right. -/
def treeIn (n i leaf : Int) (zs : List Int) : Prop := (1 ≤ n ∧ n ≤ 16) ∧ (0 ≤ i ∧ i < n) ∧ (0 ≤ leaf ∧ leaf < 991) ∧ digB zs = true
def treeOk (digest n i leaf : Int) (zs : List Int) : Prop := treeIn n i leaf zs ∧ zs.length = proofLen n.toNat i.toNat ∧ checkZ n.toNat i.toNat leaf zs = digest
instance (n i leaf : Int) (zs : List Int) : Decidable (treeIn n i leaf zs) := by unfold treeIn; infer_instance
instance (digest n i leaf : Int) (zs : List Int) : Decidable (treeOk digest n i leaf zs) := by unfold treeOk; infer_instance
def treeOkB (digest n i leaf : Int) (zs : List Int) : Bool := decide (treeOk digest n i leaf zs)
theorem treeOkB_iff (digest n i leaf : Int) (zs : List Int) : treeOkB digest n i leaf zs = true ↔ treeOk digest n i leaf zs := by unfold treeOkB; rw [decide_eq_true_eq]
theorem treeOkB_no {digest n i leaf : Int} {zs : List Int} (h : ¬ treeOk digest n i leaf zs) : treeOkB digest n i leaf zs = false := by
  rw [Bool.eq_false_iff]; exact fun e => h ((treeOkB_iff _ _ _ _ _).1 e)

theorem natsZ_erase (ss : List Nat) (p : Nat) : (vals (natsZ ss)).take p ++ (vals (natsZ ss)).drop (p + 1) = vals (natsZ (ss.eraseIdx p)) := by
  unfold vals natsZ
  rw [← List.eraseIdx_eq_take_drop_succ, eraseIdx_map, eraseIdx_map]
def DeletedI (w : World) (base b c : Nat) (zs : List Int) (e : Ending) (w' : World) : Prop :=
  e = .returned (.slice (some ⟨b, 0, none⟩) zs.length c) ∧ OwnInts w' base (some ⟨b, 0, none⟩) c zs ∧ w.grownBy w' (some b)
theorem deli_any (ss : List Nat) (p base b c : Nat) (w : World) (hO : OwnInts w base (some ⟨b, 0, none⟩) c (natsZ ss)) (hp : p < ss.length) (hn : ss.length ≤ 1000) :
    Calls Tryd.prog 58 #[.slice (some ⟨b, 0, none⟩) ss.length c, .int .i64 (p : Int), .int .i64 ((p : Int) + 1)] w (DeletedI w base b c (natsZ (ss.eraseIdx p))) := by
  have hl : (vals (natsZ ss)).length = ss.length := by rw [vals_length, natsZ_length]
  have h1 : w.ownsRow base 3 1 (.slice (some ⟨b, 0, none⟩) (vals (natsZ ss)).length c) (vals (natsZ ss)).length (vals (natsZ ss)) := by
    have := hO
    unfold OwnInts at this
    rw [natsZ_length] at this
    rw [hl]
    exact this
  have h := deli_rows (vals (natsZ ss)) p (p + 1) base b c w h1 (vals_one _) (by omega) (by rw [hl]; omega) (by rw [hl]; exact hn)
  rw [hl, natsZ_erase, show ss.length - (p + 1 - p) = (natsZ (ss.eraseIdx p)).length by rw [natsZ_length, List.length_eraseIdx_of_lt hp]; omega] at h
  exact h

theorem RootsAt.insert {w : World} {gs : List Nat} {rs : List Int} (h : RootsAt w gs rs) (p g : Nat) (r : Int) (hp : p ≤ gs.length) (hn : ∃ s x y, Node w g r s x y) : RootsAt w (gs.insertIdx p g) (rs.insertIdx p r) := by
  have hs := h.same
  refine ⟨by rw [List.length_insertIdx_of_le_length hp, List.length_insertIdx_of_le_length (by omega), hs], fun k hk => ?_⟩
  rw [List.length_insertIdx_of_le_length hp] at hk
  rw [insert_split g gs p hp, insert_split r rs p (by omega)]
  have hl1 : (gs.take p).length = p := by rw [List.length_take]; omega
  have hl2 : (rs.take p).length = p := by rw [List.length_take]; omega
  unfold gth nth
  rw [List.getD_eq_getElem?_getD, List.getD_eq_getElem?_getD]
  by_cases c : k < p
  · rw [List.getElem?_append_left (by omega), List.getElem?_append_left (by omega), List.getElem?_take_of_lt c, List.getElem?_take_of_lt c]
    have := h.node k (by omega)
    unfold gth nth at this
    rw [List.getD_eq_getElem?_getD, List.getD_eq_getElem?_getD] at this
    exact this
  · rw [List.getElem?_append_right (by omega), List.getElem?_append_right (by omega), hl1, hl2]
    by_cases e : k = p
    · rw [e, Nat.sub_self]
      exact hn
    · obtain ⟨j, hj⟩ : ∃ j, k - p = j + 1 := ⟨k - p - 1, by omega⟩
      rw [hj, List.getElem?_cons_succ, List.getElem?_cons_succ, List.getElem?_drop, List.getElem?_drop]
      have := h.node (p + j) (by omega)
      unfold gth nth at this
      rw [List.getD_eq_getElem?_getD, List.getD_eq_getElem?_getD] at this
      exact this

set_option maxHeartbeats 2000000 in
theorem tcheck_out (digest n i leaf : Int) (zs : List Int) (A : Option Addr) (cap : Nat) (w : World) (hI : IntsAt w w.heap.size A zs) (hmax : zs.length ≤ maxLen) (hno : ¬ treeIn n i leaf zs) :
    Calls Tryd.prog 14 #[.int .i64 digest, .int .i64 n, .int .i64 i, .int .i64 leaf, .slice A zs.length cap] w fun e w' => e = .returned (.bool false) ∧ Below w.heap.size w w' := by
  have HI := Lib.hid hI
  have HM := Lib.hid hmax
  clear hI hmax
  by_cases h1 : n < 1
  · clear hno
    go_enter Tryd.func14, Tryd.ntmps14
    go_wp2
    go_ret
    exact ⟨rfl, Below.refl _ _⟩
  by_cases h2 : 16 < n
  · clear hno
    go_enter Tryd.func14, Tryd.ntmps14
    go_wp2
    go_ret
    exact ⟨rfl, Below.refl _ _⟩
  by_cases h3 : i < 0
  · clear hno
    go_enter Tryd.func14, Tryd.ntmps14
    go_wp2
    go_ret
    exact ⟨rfl, Below.refl _ _⟩
  by_cases h4 : n ≤ i
  · clear hno
    go_enter Tryd.func14, Tryd.ntmps14
    go_wp2
    go_ret
    exact ⟨rfl, Below.refl _ _⟩
  cases hl : digB [leaf] with
  | false =>
    have HL := Lib.hid hl
    clear hno hl
    go_enter Tryd.func14, Tryd.ntmps14
    go_wp2_with fail
    refine (are_any _ _ [leaf] _ (one_new w leaf) (by simp [maxLen])).mono ?_
    rintro e w' ⟨rfl, rfl⟩
    rw [HL.out]
    go_wp2
    go_ret
    exact ⟨rfl, (Below.refl _ _).alloc (Nat.le_refl _) _⟩
  | true =>
    have hlf : 0 ≤ leaf ∧ leaf < 991 := digB_yes hl leaf (by simp)
    have HL := Lib.hid hl
    have HZ : Hid (digB zs = false) := by
      show _ = _
      rw [Bool.eq_false_iff]
      exact fun e => hno ⟨by omega, by omega, hlf, e⟩
    clear hno hl hlf
    go_enter Tryd.func14, Tryd.ntmps14
    go_wp2_with fail
    refine (are_any _ _ [leaf] _ (one_new w leaf) (by simp [maxLen])).mono ?_
    rintro e w' ⟨rfl, rfl⟩
    rw [HL.out]
    go_wp2_with fail
    refine (are_any _ _ zs _ (HI.out.allocS _) HM.out).mono ?_
    rintro e w' ⟨rfl, rfl⟩
    rw [HZ.out]
    go_wp2
    go_ret
    exact ⟨rfl, (Below.refl _ _).alloc (Nat.le_refl _) _⟩

theorem look_depth : allNI (fun n i => decide ((peakOf n i).2 = 2 ^ depthOf n i) && decide (depthOf n i ≤ 4) && decide (depthOf n i ≤ proofLen n i)) = true := by decide +kernel
theorem depth_facts {n i : Nat} (h : n ≤ 16) (hi : i < n) : (peakOf n i).2 = 2 ^ depthOf n i ∧ depthOf n i ≤ 4 ∧ depthOf n i ≤ proofLen n i := by
  have := allNI_get look_depth h hi
  simp only [Bool.and_eq_true, decide_eq_true_eq] at this
  exact ⟨this.1.1, this.1.2, this.2⟩

set_option maxHeartbeats 4000000 in
set_option maxRecDepth 100000 in
theorem tcheck_in (digest leaf : Int) (n i : Nat) (zs : List Int) (A : Option Addr) (cap : Nat) (w : World) (hT : Tab w) (hI : IntsAt w w.heap.size A zs) (hA : (A = none ∧ cap = 0) ∨ ∃ b o, A = some ⟨b, o, none⟩) (hcap : zs.length ≤ cap) (hmax : cap ≤ maxLen) (h1 : 1 ≤ n) (h16 : n ≤ 16) (hi : i < n) (hl0 : 0 ≤ leaf) (hl1 : leaf < 991) (hz : digB zs = true) :
    Calls Tryd.prog 14 #[.int .i64 digest, .int .i64 (n : Int), .int .i64 (i : Int), .int .i64 leaf, .slice A zs.length cap] w fun e w' => e = .returned (.bool (treeOkB digest n i leaf zs)) ∧ Below w.heap.size w w' := by
  have HI := Lib.hid hI
  have HT := Lib.hid hT
  have HZ := Lib.hid hz
  have HD := Lib.hid (digB_yes hz)
  have HL : Hid (digB [leaf] = true) := digB_of (fun x hx => by rw [List.mem_singleton] at hx; subst hx; exact ⟨hl0, hl1⟩)
  have HM := Lib.hid (Nat.le_trans hcap hmax)
  have HT0 : Hid (treeIn n i leaf zs) := ⟨by omega, by omega, ⟨hl0, hl1⟩, hz⟩
  obtain ⟨hp1, _, hp3⟩ := place_facts h16 hi
  obtain ⟨d1, d2, d3⟩ := depth_facts h16 hi
  obtain ⟨p, HP⟩ : ∃ p, Hid (placeOf n i = p) := ⟨_, rfl⟩
  obtain ⟨m, HMM⟩ : ∃ m, Hid ((sizesOf 0 n).length = m) := ⟨_, rfl⟩
  rw [HP.out, ← sizesOf_length, HMM.out] at hp1
  have hm17 : m ≤ 17 := by rw [← HMM.out, sizesOf_length]; exact places_length_le 0 n
  obtain ⟨d, HDD⟩ : ∃ d, Hid (depthOf n i = d) := ⟨_, rfl⟩
  have hpl : proofLen n i = d + m - 1 := by unfold proofLen; rw [HDD.out, HMM.out]
  have HPL := Lib.hid hpl
  rw [HDD.out] at d1 d2 d3
  have hsp : (sizesOf 0 n).getD p 0 = 2 ^ d := by
    rw [sizesOf_getD 0 n p (by rw [← sizesOf_length, HMM.out]; exact hp1), ← HP.out]
    exact d1
  have HSP := Lib.hid hsp
  obtain ⟨L, HLL⟩ : ∃ L, Hid (zs.length = L) := ⟨_, rfl⟩
  rw [HLL.out] at hcap ⊢
  have hmx := hmax
  unfold maxLen at hmx
  have CA : Hid (∀ W : World, Below w.heap.size w W → Calls Tryd.prog 52 #[.slice A L cap] W fun e w' => e = .returned (.bool true) ∧ W = w') := fun W hW => by
    have := are_any A cap zs W (hI.belowS hW) HM.out
    rw [HLL.out, hz] at this
    exact this
  clear hI hT hz hp3 hsp hpl d1
  go_enter Tryd.func14, Tryd.ntmps14
  go_wp2_with fail
  refine (are_any _ _ [leaf] _ (one_new w leaf) (by simp [maxLen])).mono ?_
  rintro e w' ⟨rfl, rfl⟩
  rw [HL.out]
  go_wp2_with fail
  refine (CA.out _ ((Below.refl _ _).alloc (Nat.le_refl _) _)).mono ?_
  rintro e w' ⟨rfl, rfl⟩
  go_wp2_with fail
  refine (sizes_any 0 n _ h16 (by omega)).mono ?_
  rintro e w1 ⟨A1, c1, rfl, hown1, hb1⟩
  simp only [World.size_alloc] at hown1 hb1
  rw [natsZ_length, HMM.out]
  obtain ⟨b1, hA1⟩ : ∃ b1, A1 = some ⟨b1, 0, none⟩ := by
    obtain ⟨g, cc, hv, _, _⟩ := World.ownsRow.form hown1 (by rw [natsZ_length, HMM.out]; omega)
    injection hv with hA _ _
    exact ⟨g, hA⟩
  subst hA1
  have HO1 := Lib.hid hown1
  have HB1 : Hid (Below w.heap.size w w1) := ((Below.refl _ w).alloc (Nat.le_refl _) _).trans (hb1.mono (by omega))
  have hb1f : w.heap.size < b1 := by have := hown1.far (n := 0) b1 rfl; omega
  clear hown1 hb1
  have CP : Hid (Calls Tryd.prog 54 #[.slice (some ⟨b1, 0, none⟩) m c1, .int .i64 (i : Int)] w1 fun e w' => e = .returned (.int .i64 (p : Int)) ∧ w1 = w') := by
    have := place_any n i (some ⟨b1, 0, none⟩) c1 w1 HO1.out.ints h16 hi
    rw [HMM.out, HP.out] at this
    exact this
  go_wp2_with fail
  refine CP.out.mono ?_
  rintro e w' ⟨rfl, rfl⟩
  have hcp : w1.cell? ⟨b1, p, none⟩ = some (.int .i64 ((2 ^ d : Nat) : Int)) := by
    have h := (HO1.out.ints.lt (by rw [natsZ_length, HMM.out]; omega)).2 p (by rw [natsZ_length, HMM.out]; exact hp1)
    rw [Nat.zero_add, natsZ_nth, HSP.out] at h
    exact h
  obtain ⟨sd, HSD⟩ : ∃ sd : Nat, Hid (2 ^ d = sd) := ⟨_, rfl⟩
  have hsd1 : 1 ≤ sd := by rw [← HSD.out]; exact Nat.pos_of_ne_zero (by simp)
  have hsd16 : sd ≤ 16 := by
    rw [← HSD.out]
    have : (2 : Nat) ^ d ≤ 2 ^ 4 := Nat.pow_le_pow_right (by omega) d2
    omega
  rw [HSD.out] at hcp
  have hpi : (p : Int) < (m : Int) := by omega
  have hpi0 : (0 : Int) ≤ (p : Int) := by omega
  have CT : Hid (Calls Tryd.prog 55 #[.int .u64 (sd : Int)] w1 fun e w' => e = .returned (.int .i64 (d : Int)) ∧ w1 = w') := by
    have := tz_any d w1 (HT.out.below HB1.out) d2
    rw [HSD.out] at this
    exact this
  go_wp2_with fail
  refine CT.out.mono ?_
  rintro e w' ⟨rfl, rfl⟩
  by_cases hlen : L = d + m - 1
  · have hne : ((L : Int) != (d : Int) + (m : Int) - 1) = false := by rw [bne_eq_false_iff_eq]; omega
    have hdL : d ≤ L := by omega
    have hmL : L - d = m - 1 := by omega
    obtain ⟨ck, HCK⟩ : ∃ ck, Hid (checkZ n i leaf zs = ck) := ⟨_, rfl⟩
    have HE : Hid (treeOkB digest n i leaf zs = (ck == digest)) := by
      show _ = _
      rw [Bool.eq_iff_iff, treeOkB_iff, beq_iff_eq]
      unfold treeOk
      rw [HLL.out, Int.toNat_natCast, Int.toNat_natCast, HPL.out, HCK.out]
      exact ⟨fun h => h.2.2, fun h => ⟨HT0.out, hlen, h⟩⟩
    have htl : (zs.take d).length = d := by rw [List.length_take, HLL.out]; omega
    have htd : (zs.drop d).length = m - 1 := by rw [List.length_drop, HLL.out]; omega
    obtain ⟨r, HR⟩ : ∃ r, Hid (climbG pairZ (zs.take d) 1 i leaf = r) := ⟨_, rfl⟩
    have hrb : 0 ≤ r ∧ r < 991 := by rw [← HR.out]; exact climb_bd _ _ _ _ ⟨hl0, hl1⟩
    have HRB := Lib.hid hrb
    have CC : Hid (Calls Tryd.prog 56 #[.int .i64 leaf, .int .i64 (i : Int), .slice A d cap] w1 (Climbed w1 r sd)) := by
      have := climb_any leaf i (zs.take d) A cap w1 ((HI.out.belowS HB1.out).first d) (HD.out.take d) hl0 hl1 (by omega) (by omega)
      rw [htl, HR.out, HSD.out] at this
      exact this
    have hi1 : (d : Int) ≤ (L : Int) := by omega
    have hi2 : (d : Int) ≤ (cap : Int) := by omega
    clear hlen htl hrb
    go_wp2_with fail
    refine CC.out.mono ?_
    rintro e w2 ⟨g, x, y, rfl, hnd, hb2⟩
    have HND := Lib.hid hnd
    have HO12 := Lib.hid (HO1.out.below hb2)
    have HB2 : Hid (Below w.heap.size w w2) := HB1.out.trans (hb2.mono HB1.out.size)
    have hz2 : w1.heap.size ≤ w2.heap.size := hb2.size
    have hb1w : b1 < w1.heap.size := (HO1.out.ints.lt (by rw [natsZ_length, HMM.out]; omega)).1
    clear hnd hb2 hcp
    have hL1 : (natsZ ((sizesOf 0 n).eraseIdx p)).length = m - 1 := by rw [natsZ_length, List.length_eraseIdx_of_lt (by rw [HMM.out]; exact hp1), HMM.out]
    have hL2 : ((sizesOf 0 n).eraseIdx p).length = m - 1 := by rw [← natsZ_length]; exact hL1
    have C1 : Hid (∀ W : World, W = w2.drew → Calls Tryd.prog 58 #[.slice (some ⟨b1, 0, none⟩) m c1, .int .i64 (p : Int), .int .i64 ((p : Int) + 1)] W (DeletedI w2 (w.heap.size + 1) b1 c1 (natsZ ((sizesOf 0 n).eraseIdx p)))) := fun W hW => by
      subst hW
      have := deli_any (sizesOf 0 n) p (w.heap.size + 1) b1 c1 w2.drew HO12.out (by rw [HMM.out]; exact hp1) (by rw [HMM.out]; omega)
      rw [HMM.out] at this
      exact this.mono fun e w' ⟨h1, h2, h3⟩ => ⟨h1, h2, ⟨h3.os, h3.tape, h3.output, h3.size, h3.block⟩⟩
    have hwp : IntKind.i64.wrap ((p : Int) + 1) = (p : Int) + 1 := IntWalk.i64_in _ (by omega)
    rcases hA with ⟨hA, hc0⟩ | ⟨b, o, hA⟩
    · subst hA hc0
      have hd0 : d = 0 := by omega
      have hi3 : (d : Int) ≤ 0 := by omega
      have C2 : Hid (∀ W : World, OwnInts W (w.heap.size + 1) (some ⟨b1, 0, none⟩) c1 (natsZ ((sizesOf 0 n).eraseIdx p)) → Below w.heap.size w W → Calls Tryd.prog 57 #[.slice (some ⟨b1, 0, none⟩) (m - 1) c1, .slice none 0 0] W (RetNodes W (((sizesOf 0 n).eraseIdx p).zip (zs.drop d)))) := fun W hW hBW => by
        have hr : IntsAt W W.heap.size none (zs.drop d) := fun hn => by rw [htd] at hn; omega
        have := knowns_any (some ⟨b1, 0, none⟩) c1 ((sizesOf 0 n).eraseIdx p) none 0 (zs.drop d) W hW.ints hr (by omega) (by omega)
        rw [show (zs.drop d).length = 0 by omega, show ((sizesOf 0 n).eraseIdx p).length = (m - 1) by omega] at this
        exact this
      go_wp2_with fail
      go_region_held3 (fun _ => True) (trivial)
        (first
          | (go_at_call 58; (with_reducible refine (C1.out w2.drew rfl).mono ?_); rintro e w3 ⟨rfl, hown3, hg3⟩; have HO3 := Lib.hid hown3; have HG3 := Lib.hid hg3; have HB3 : Hid (Below w.heap.size w w3) := HB2.out.grown hg3 (by have := HB2.out.size; omega) (fun k hk => by injection hk with hk; omega); clear hown3 hg3)
          | (go_at_call 57; (with_reducible refine (C2.out w3 HO3.out HB3.out).mono ?_); rintro e w4 ⟨A4, c4, gs, rfl, hown4, hnd4, hb4⟩; have HO4 := Lib.hid hown4; have HN4 := Lib.hid hnd4; have HB4 := Lib.hid hb4; clear hown4 hnd4 hb4))
      have hgl : gs.length = m - 1 := by
        have h := HN4.out.same
        rw [List.length_zip, htd, hL2] at h
        omega
      have HRT : Hid (RootsAt w4 gs (zs.drop d)) := by
        have h := HN4.out.roots
        rw [List.map_snd_zip (by omega)] at h
        exact h
      have HND4 : Hid (Node w4 g r (sd : Int) x y) := by
        have h3 : Node w3 g r (sd : Int) x y := Blk.grown HND.out HG3.out (fun e => own_blk_ne HO12.out HND.out (by decide) e.symm)
        exact Kept.of_below HB4.out _ _ _ _ _ h3
      have hz3 : w.heap.size ≤ w3.heap.size := HB3.out.size
      have hz4 : w3.heap.size ≤ w4.heap.size := HB4.out.size
      have HB04 : Hid (Below w.heap.size w w4) := HB3.out.trans (HB4.out.mono hz3)
      have HFZ : Hid (foldZ n ((zs.drop d).insertIdx p r) = ck) := by
        show _ = _
        rw [← HCK.out]
        unfold checkZ checkG foldZ
        rw [HDD.out, HP.out, HR.out]
      have HDG : Hid (Digs ((zs.drop d).insertIdx p r)) := by
        intro q hq
        rw [insert_split r _ p (by rw [htd]; omega)] at hq
        rcases List.mem_append.1 hq with hq | hq
        · exact HD.out q (List.mem_of_mem_drop (List.mem_of_mem_take hq))
        · rcases List.mem_cons.1 hq with hq | hq
          · subst hq; exact HRB.out
          · exact HD.out q (List.mem_of_mem_drop (List.mem_of_mem_drop hq))
      have HGL := Lib.hid hgl
      clear hgl htd hL1 hL2
      have CI : Hid (Calls Tryd.prog 60 #[.slice A4 gs.length c4, .int .i64 (p : Int), .slice (some ⟨w4.heap.size, 0, none⟩) 1 1] (w4.alloc (.cells #[ptr g] 80)) (Inserted (w4.alloc (.cells #[ptr g] 80)) w3.heap.size (gs.insertIdx p g))) :=
        ins_any gs p g w3.heap.size A4 c4 w4.heap.size _ (HO4.out.alloc _) (Blk.new w4 _ _) (by rw [HGL.out]; omega) (fun b hb => by have := (World.ownsRow.lt HO4.out b (by rw [hb]; rfl)).2; omega) (by rw [HGL.out]; omega) (by simp; omega)
      go_wp2_with fail
      refine CI.out.mono ?_
      rintro e w6 ⟨A6, c6, rfl, hown6, hb6, hk6⟩
      have HO6 := Lib.hid hown6
      have HK6 := Lib.hid ((Kept.alloc w4 _).trans hk6)
      have HB6 : Hid (Below w.heap.size w w6) := (HB04.out.alloc (by omega) _).trans (hb6.mono hz3)
      clear hown6 hb6 hk6
      have HRT6 : Hid (RootsAt w6 (gs.insertIdx p g) ((zs.drop d).insertIdx p r)) := (HRT.out.kept HK6.out).insert p g r (by rw [HGL.out]; omega) ⟨_, x, y, HK6.out _ _ _ _ _ HND4.out⟩
      go_wp2_with fail
      refine (peaksD_any (n : Int) A6 c6 (gs.insertIdx p g) ((zs.drop d).insertIdx p r) _ HO6.out.ints (by rw [List.length_insertIdx_of_le_length (by rw [HGL.out]; omega), HGL.out]; omega) HRT6.out HDG.out (by omega) (by omega)).mono ?_
      rintro e w' ⟨rfl, rfl⟩
      rw [HFZ.out]
      go_wp2
      go_ret
      exact ⟨ret_bool HE.out.symm, HB6.out⟩
    · subst hA
      by_cases hcd : cap = d
      · have hmz : m - 1 = 0 := by omega
        have C2 : Hid (∀ W : World, OwnInts W (w.heap.size + 1) (some ⟨b1, 0, none⟩) c1 (natsZ ((sizesOf 0 n).eraseIdx p)) → Below w.heap.size w W → Calls Tryd.prog 57 #[.slice (some ⟨b1, 0, none⟩) 0 c1, .slice (some ⟨b, o, none⟩) 0 0] W (RetNodes W (((sizesOf 0 n).eraseIdx p).zip (zs.drop d)))) := fun W hW hBW => by
          have hr : IntsAt W W.heap.size (some ⟨b, o, none⟩) (zs.drop d) := fun hn => by rw [htd] at hn; omega
          have := knowns_any (some ⟨b1, 0, none⟩) c1 ((sizesOf 0 n).eraseIdx p) (some ⟨b, o, none⟩) 0 (zs.drop d) W hW.ints hr (by omega) (by omega)
          rw [show (zs.drop d).length = 0 by omega, show ((sizesOf 0 n).eraseIdx p).length = 0 by omega] at this
          exact this
        go_wp2_with fail
        go_region_held3 (fun _ => True) (trivial)
          (first
            | (go_at_call 58; (with_reducible refine (C1.out w2.drew rfl).mono ?_); rintro e w3 ⟨rfl, hown3, hg3⟩; have HO3 := Lib.hid hown3; have HG3 := Lib.hid hg3; have HB3 : Hid (Below w.heap.size w w3) := HB2.out.grown hg3 (by have := HB2.out.size; omega) (fun k hk => by injection hk with hk; omega); clear hown3 hg3)
            | (go_at_call 57; (with_reducible refine (C2.out w3 HO3.out HB3.out).mono ?_); rintro e w4 ⟨A4, c4, gs, rfl, hown4, hnd4, hb4⟩; have HO4 := Lib.hid hown4; have HN4 := Lib.hid hnd4; have HB4 := Lib.hid hb4; clear hown4 hnd4 hb4))
        have hgl : gs.length = m - 1 := by
          have h := HN4.out.same
          rw [List.length_zip, htd, hL2] at h
          omega
        have HRT : Hid (RootsAt w4 gs (zs.drop d)) := by
          have h := HN4.out.roots
          rw [List.map_snd_zip (by omega)] at h
          exact h
        have HND4 : Hid (Node w4 g r (sd : Int) x y) := by
          have h3 : Node w3 g r (sd : Int) x y := Blk.grown HND.out HG3.out (fun e => own_blk_ne HO12.out HND.out (by decide) e.symm)
          exact Kept.of_below HB4.out _ _ _ _ _ h3
        have hz3 : w.heap.size ≤ w3.heap.size := HB3.out.size
        have hz4 : w3.heap.size ≤ w4.heap.size := HB4.out.size
        have HB04 : Hid (Below w.heap.size w w4) := HB3.out.trans (HB4.out.mono hz3)
        have HFZ : Hid (foldZ n ((zs.drop d).insertIdx p r) = ck) := by
          show _ = _
          rw [← HCK.out]
          unfold checkZ checkG foldZ
          rw [HDD.out, HP.out, HR.out]
        have HDG : Hid (Digs ((zs.drop d).insertIdx p r)) := by
          intro q hq
          rw [insert_split r _ p (by rw [htd]; omega)] at hq
          rcases List.mem_append.1 hq with hq | hq
          · exact HD.out q (List.mem_of_mem_drop (List.mem_of_mem_take hq))
          · rcases List.mem_cons.1 hq with hq | hq
            · subst hq; exact HRB.out
            · exact HD.out q (List.mem_of_mem_drop (List.mem_of_mem_drop hq))
        have HGL := Lib.hid hgl
        clear hgl htd hL1 hL2
        have CI : Hid (Calls Tryd.prog 60 #[.slice A4 gs.length c4, .int .i64 (p : Int), .slice (some ⟨w4.heap.size, 0, none⟩) 1 1] (w4.alloc (.cells #[ptr g] 80)) (Inserted (w4.alloc (.cells #[ptr g] 80)) w3.heap.size (gs.insertIdx p g))) :=
          ins_any gs p g w3.heap.size A4 c4 w4.heap.size _ (HO4.out.alloc _) (Blk.new w4 _ _) (by rw [HGL.out]; omega) (fun b hb => by have := (World.ownsRow.lt HO4.out b (by rw [hb]; rfl)).2; omega) (by rw [HGL.out]; omega) (by simp; omega)
        go_wp2_with fail
        refine CI.out.mono ?_
        rintro e w6 ⟨A6, c6, rfl, hown6, hb6, hk6⟩
        have HO6 := Lib.hid hown6
        have HK6 := Lib.hid ((Kept.alloc w4 _).trans hk6)
        have HB6 : Hid (Below w.heap.size w w6) := (HB04.out.alloc (by omega) _).trans (hb6.mono hz3)
        clear hown6 hb6 hk6
        have HRT6 : Hid (RootsAt w6 (gs.insertIdx p g) ((zs.drop d).insertIdx p r)) := (HRT.out.kept HK6.out).insert p g r (by rw [HGL.out]; omega) ⟨_, x, y, HK6.out _ _ _ _ _ HND4.out⟩
        go_wp2_with fail
        refine (peaksD_any (n : Int) A6 c6 (gs.insertIdx p g) ((zs.drop d).insertIdx p r) _ HO6.out.ints (by rw [List.length_insertIdx_of_le_length (by rw [HGL.out]; omega), HGL.out]; omega) HRT6.out HDG.out (by omega) (by omega)).mono ?_
        rintro e w' ⟨rfl, rfl⟩
        rw [HFZ.out]
        go_wp2
        go_ret
        exact ⟨ret_bool HE.out.symm, HB6.out⟩
      · have hr0 : Hid (∀ W : World, Below w.heap.size w W → IntsAt W W.heap.size (some ⟨b, o + d, none⟩) (zs.drop d)) := fun W hW => by
          have h := (HI.out.belowS hW).part d L rfl
          rw [List.take_of_length_le (by rw [htd]; omega)] at h
          exact h
        have C2 : Hid (∀ W : World, OwnInts W (w.heap.size + 1) (some ⟨b1, 0, none⟩) c1 (natsZ ((sizesOf 0 n).eraseIdx p)) → Below w.heap.size w W → Calls Tryd.prog 57 #[.slice (some ⟨b1, 0, none⟩) (m - 1) c1, .slice (some ⟨b, o + d, none⟩) (m - 1) (cap - d)] W (RetNodes W (((sizesOf 0 n).eraseIdx p).zip (zs.drop d)))) := fun W hW hBW => by
          have hr : IntsAt W W.heap.size (some ⟨b, o + d, none⟩) (zs.drop d) := hr0.out W hBW
          have := knowns_any (some ⟨b1, 0, none⟩) c1 ((sizesOf 0 n).eraseIdx p) (some ⟨b, o + d, none⟩) (cap - d) (zs.drop d) W hW.ints hr (by omega) (by omega)
          rw [show (zs.drop d).length = (m - 1) by omega, show ((sizesOf 0 n).eraseIdx p).length = (m - 1) by omega] at this
          exact this
        go_wp2_with fail
        go_region_held3 (fun _ => True) (trivial)
          (first
            | (go_at_call 58; (with_reducible refine (C1.out w2.drew rfl).mono ?_); rintro e w3 ⟨rfl, hown3, hg3⟩; have HO3 := Lib.hid hown3; have HG3 := Lib.hid hg3; have HB3 : Hid (Below w.heap.size w w3) := HB2.out.grown hg3 (by have := HB2.out.size; omega) (fun k hk => by injection hk with hk; omega); clear hown3 hg3)
            | (go_at_call 57; (with_reducible refine (C2.out w3 HO3.out HB3.out).mono ?_); rintro e w4 ⟨A4, c4, gs, rfl, hown4, hnd4, hb4⟩; have HO4 := Lib.hid hown4; have HN4 := Lib.hid hnd4; have HB4 := Lib.hid hb4; clear hown4 hnd4 hb4))
        have hgl : gs.length = m - 1 := by
          have h := HN4.out.same
          rw [List.length_zip, htd, hL2] at h
          omega
        have HRT : Hid (RootsAt w4 gs (zs.drop d)) := by
          have h := HN4.out.roots
          rw [List.map_snd_zip (by omega)] at h
          exact h
        have HND4 : Hid (Node w4 g r (sd : Int) x y) := by
          have h3 : Node w3 g r (sd : Int) x y := Blk.grown HND.out HG3.out (fun e => own_blk_ne HO12.out HND.out (by decide) e.symm)
          exact Kept.of_below HB4.out _ _ _ _ _ h3
        have hz3 : w.heap.size ≤ w3.heap.size := HB3.out.size
        have hz4 : w3.heap.size ≤ w4.heap.size := HB4.out.size
        have HB04 : Hid (Below w.heap.size w w4) := HB3.out.trans (HB4.out.mono hz3)
        have HFZ : Hid (foldZ n ((zs.drop d).insertIdx p r) = ck) := by
          show _ = _
          rw [← HCK.out]
          unfold checkZ checkG foldZ
          rw [HDD.out, HP.out, HR.out]
        have HDG : Hid (Digs ((zs.drop d).insertIdx p r)) := by
          intro q hq
          rw [insert_split r _ p (by rw [htd]; omega)] at hq
          rcases List.mem_append.1 hq with hq | hq
          · exact HD.out q (List.mem_of_mem_drop (List.mem_of_mem_take hq))
          · rcases List.mem_cons.1 hq with hq | hq
            · subst hq; exact HRB.out
            · exact HD.out q (List.mem_of_mem_drop (List.mem_of_mem_drop hq))
        have HGL := Lib.hid hgl
        clear hgl htd hL1 hL2
        have CI : Hid (Calls Tryd.prog 60 #[.slice A4 gs.length c4, .int .i64 (p : Int), .slice (some ⟨w4.heap.size, 0, none⟩) 1 1] (w4.alloc (.cells #[ptr g] 80)) (Inserted (w4.alloc (.cells #[ptr g] 80)) w3.heap.size (gs.insertIdx p g))) :=
          ins_any gs p g w3.heap.size A4 c4 w4.heap.size _ (HO4.out.alloc _) (Blk.new w4 _ _) (by rw [HGL.out]; omega) (fun b hb => by have := (World.ownsRow.lt HO4.out b (by rw [hb]; rfl)).2; omega) (by rw [HGL.out]; omega) (by simp; omega)
        go_wp2_with fail
        refine CI.out.mono ?_
        rintro e w6 ⟨A6, c6, rfl, hown6, hb6, hk6⟩
        have HO6 := Lib.hid hown6
        have HK6 := Lib.hid ((Kept.alloc w4 _).trans hk6)
        have HB6 : Hid (Below w.heap.size w w6) := (HB04.out.alloc (by omega) _).trans (hb6.mono hz3)
        clear hown6 hb6 hk6
        have HRT6 : Hid (RootsAt w6 (gs.insertIdx p g) ((zs.drop d).insertIdx p r)) := (HRT.out.kept HK6.out).insert p g r (by rw [HGL.out]; omega) ⟨_, x, y, HK6.out _ _ _ _ _ HND4.out⟩
        go_wp2_with fail
        refine (peaksD_any (n : Int) A6 c6 (gs.insertIdx p g) ((zs.drop d).insertIdx p r) _ HO6.out.ints (by rw [List.length_insertIdx_of_le_length (by rw [HGL.out]; omega), HGL.out]; omega) HRT6.out HDG.out (by omega) (by omega)).mono ?_
        rintro e w' ⟨rfl, rfl⟩
        rw [HFZ.out]
        go_wp2
        go_ret
        exact ⟨ret_bool HE.out.symm, HB6.out⟩
  · have HE : Hid (treeOkB digest n i leaf zs = false) := treeOkB_no fun h => hlen (by
      have := h.2.1
      rw [HLL.out, Int.toNat_natCast, Int.toNat_natCast, HPL.out] at this
      exact this)
    have hne : ((L : Int) != (d : Int) + (m : Int) - 1) = true := by rw [bne_iff_ne]; omega
    clear hlen
    go_wp2
    go_ret
    exact ⟨ret_bool HE.out.symm, HB1.out⟩

theorem tcheck_any (digest n i leaf : Int) (zs : List Int) (A : Option Addr) (cap : Nat) (w : World) (hT : Tab w) (hI : IntsAt w w.heap.size A zs) (hA : (A = none ∧ cap = 0) ∨ ∃ b o, A = some ⟨b, o, none⟩) (hcap : zs.length ≤ cap) (hmax : cap ≤ maxLen) :
    Calls Tryd.prog 14 #[.int .i64 digest, .int .i64 n, .int .i64 i, .int .i64 leaf, .slice A zs.length cap] w fun e w' => e = .returned (.bool (treeOkB digest n i leaf zs)) ∧ Below w.heap.size w w' := by
  by_cases h : treeIn n i leaf zs
  · obtain ⟨h1, h2, h3, h4⟩ := h
    obtain ⟨n', rfl⟩ := Int.eq_ofNat_of_zero_le (show 0 ≤ n by omega)
    obtain ⟨i', rfl⟩ := Int.eq_ofNat_of_zero_le (show 0 ≤ i by omega)
    exact tcheck_in digest leaf n' i' zs A cap w hT hI hA hcap hmax (by omega) (by omega) (by omega) h3.1 h3.2 h4
  · rw [treeOkB_no fun k => h k.1]
    exact tcheck_out digest n i leaf zs A cap w hI (Nat.le_trans hcap hmax) h

end Go.Proofs.YtgklkceoafohmaaDoor

namespace Go.Proofs.YtgklkceoafohmaaDoor
open Go.RowKit
set_option linter.unusedVariables false

set_option maxHeartbeats 800000 in
theorem sdigests_any (A : Option Addr) (cap : Nat) (zs : List Int) (w : World) (hI : IntsAt w w.heap.size A zs) (hm : zs.length ≤ maxLen) :
    Calls Tryd.prog 92 #[.slice A zs.length cap] w fun e w' => e = .returned (.bool (digB zs)) ∧ w = w' := by
  unfold maxLen at hm
  have HI := Lib.hid hI
  clear hI
  obtain ⟨n, HN⟩ : ∃ n, Hid (zs.length = n) := ⟨_, rfl⟩
  rw [HN.out] at hm ⊢
  go_enter Tryd.func92, Tryd.ntmps92
  go_wp2
  go_loop [3] (fun i => ∃ k : Nat, k ≤ n ∧ i = .int .i64 k ∧ Hid (digB (zs.take k) = true)) (fun i => n - (intOf i).toNat)
  case atStart => exact ⟨0, Nat.zero_le _, rfl, rfl⟩
  case round =>
    obtain ⟨k, hk, rfl, HD⟩ := hrel
    by_cases hlt : k < n
    · have hlz : k < zs.length := by rw [HN.out]; exact hlt
      obtain ⟨b, o, rfl, hb, hc⟩ := HI.out (by omega)
      have hck := hc k hlz
      by_cases hv : 0 ≤ nth zs k ∧ nth zs k < 991
      · have HT : Hid (digB (zs.take (k + 1)) = true) := by show _ = _; rw [digB_take zs k hlz, HD.out, (validB_iff _).2 hv]; rfl
        obtain ⟨hv0, hv1⟩ := hv
        clear hc hlz
        go_wp2_with fail
        refine (sdig_yes _ _ (by omega) (by omega)).mono ?_
        rintro e w' ⟨rfl, rfl⟩
        go_wp2
        go_round
        case rel => exact ⟨k + 1, by omega, by go_num, HT⟩
        case measure => simp [intOf]; omega
      · have HE := Lib.hid (digB_no k hlz hv)
        have HV := Lib.hid hv
        clear hc hlz hv
        go_wp2_with fail
        refine (sdig_no _ _ HV.out).mono ?_
        rintro e w' ⟨rfl, rfl⟩
        go_wp2
        go_ret
        exact ⟨ret_bool HE.out.symm, rfl⟩
    · have HE : Hid (digB zs = true) := digB_all k (by rw [HN.out]; omega) HD.out
      go_wp2
      go_ret
      exact ⟨ret_bool HE.out.symm, rfl⟩

end Go.Proofs.YtgklkceoafohmaaDoor

namespace Go.Proofs.YtgklkceoafohmaaDoor
open Go.RowKit
set_option linter.unusedVariables false

theorem drop_cons_nth (zs : List Int) (u : Nat) (h : u < zs.length) : zs.drop u = nth zs u :: zs.drop (u + 1) := by
  rw [List.drop_eq_getElem_cons h, nth, List.getD_eq_getElem?_getD, List.getElem?_eq_getElem h]
  rfl
theorem climbS_step {i size f st : Nat} {t p : Int} {ps : List Int} (h : st < size) : climbS pairZ i size (f + 1) st t (p :: ps) = climbS pairZ i size f (2 * st) (if i / st % 2 = 0 then pairZ t p else pairZ p t) ps := by
  show (if _ then _ else _) = _
  rw [if_pos h]
theorem climbS_none {i size f st : Nat} {t : Int} (h : st < size) : climbS pairZ i size (f + 1) st t [] = none := by
  show (if _ then _ else _) = _
  rw [if_pos h]
theorem climbS_stop {i size f st : Nat} {t : Int} {ps : List Int} (h : ¬ st < size) : climbS pairZ i size f st t ps = some (t, ps) := by
  cases f with
  | zero => rfl
  | succ f => show (if _ then _ else _) = _; rw [if_neg h]

/-- Where the first loop stands. -/
structure ClimbSAt (zs : List Int) (i size : Nat) (leaf t : Int) (u st f : Nat) : Prop where
  rest : climbS pairZ i size f st t (zs.drop u) = climbS pairZ i size 5 1 leaf zs
  form : (st = 1 ∧ f = 5) ∨ (st = 2 ∧ f = 4) ∨ (st = 4 ∧ f = 3) ∨ (st = 8 ∧ f = 2) ∨ (st = 16 ∧ f = 1)
  bd : 0 ≤ t ∧ t < 991
/-- Where the second loop stands. -/
structure OutSAt (zs : List Int) (n i : Nat) (leaf : Int) (at_ : Nat) (root o : Int) (u s f : Nat) : Prop where
  rest : outS pairZ at_ root (placesGo f s n) o (zs.drop u) = checkS pairZ n n i leaf zs
  fuel : n < s + f
  bd : 0 ≤ o ∧ o < 991

set_option maxHeartbeats 4000000 in
set_option maxRecDepth 100000 in
theorem lcheck_any (digest leaf : Int) (n i : Nat) (zs : List Int) (A : Option Addr) (cap : Nat) (w : World) (hI : IntsAt w w.heap.size A zs) (hmax : zs.length ≤ maxLen) (h1 : 1 ≤ n) (h16 : n ≤ 16) (hi : i < n) (hl0 : 0 ≤ leaf) (hl1 : leaf < 991) (hd : Digs zs) :
    Calls Tryd.prog 93 #[.int .i64 digest, .int .i64 (n : Int), .int .i64 (i : Int), .int .i64 leaf, .slice A zs.length cap] w fun e w' => e = .returned (.bool (decide (checkS pairZ n n i leaf zs = some (digest, [])))) ∧ w = w' := by
  have HI := Lib.hid hI
  have HD := Lib.hid hd
  obtain ⟨L, HL⟩ : ∃ L, Hid (zs.length = L) := ⟨_, rfl⟩
  rw [HL.out] at hmax ⊢
  unfold maxLen at hmax
  obtain ⟨at_, HAT⟩ : ∃ a, Hid ((peakOf n i).1 = a) := ⟨_, rfl⟩
  obtain ⟨size, HSZ⟩ : ∃ s, Hid ((peakOf n i).2 = s) := ⟨_, rfl⟩
  have hs16 : size ≤ 16 := by
    obtain ⟨_, _, h3⟩ := place_facts h16 hi
    obtain ⟨_, h4, _⟩ := h3 (placeOf n i) (Nat.le_refl _)
    rw [← HSZ.out]
    show szOf n (placeOf n i) ≤ 16
    omega
  obtain ⟨R, HR⟩ : ∃ R : Bool, Hid (decide (checkS pairZ n n i leaf zs = some (digest, [])) = R) := ⟨_, rfl⟩
  rw [HR.out]
  have HCS : Hid (checkS pairZ n n i leaf zs = (climbS pairZ i size 5 1 leaf zs).bind fun r => outS pairZ at_ r.1 (places 0 n) n r.2) := by
    show _ = _
    unfold checkS
    rw [HSZ.out, HAT.out]
  clear hI hd
  go_enter Tryd.func93, Tryd.ntmps93
  go_wp2_with fail
  refine (speak_any n i _ h16 hi).mono ?_
  rintro e w' ⟨rfl, rfl⟩
  rw [HAT.out, HSZ.out]
  go_wp2
  go_loop [13, 14, 15] (fun rt us stp => ∃ (t : Int) (u k f : Nat), u ≤ L ∧ rt = .int .i64 t ∧ us = .int .i64 (u : Int) ∧ stp = .int .i64 (k : Int) ∧ ClimbSAt zs i size leaf t u k f) (fun _ _ stp => 16 - (intOf stp).toNat)
  case atStart => exact ⟨leaf, 0, 1, 5, by omega, rfl, rfl, rfl, rfl, by omega, hl0, hl1⟩
  case round =>
    obtain ⟨t, u, k, f, hu, rfl, rfl, rfl, hC⟩ := hrel
    have HC := Lib.hid hC
    have hform := hC.form
    obtain ⟨t0, t1⟩ := hC.bd
    clear hC
    by_cases hlt : k < size
    · have hk1 : 1 ≤ k := by omega
      have hk16 : k ≤ 16 := by omega
      obtain ⟨f, rfl⟩ : ∃ f', f = f' + 1 := ⟨f - 1, by omega⟩
      by_cases hul : u < L
      · have huz : u < zs.length := by rw [HL.out]; exact hul
        obtain ⟨b, o, rfl, hb, hcell⟩ := HI.out (by omega)
        have hcu := hcell u huz
        obtain ⟨r0, r1⟩ := HD.out.at_ u huz
        obtain ⟨r, HRR⟩ : ∃ r, Hid (nth zs u = r) := ⟨_, rfl⟩
        rw [HRR.out] at hcu r0 r1
        obtain ⟨q, HQ⟩ : ∃ q, Hid (i / k = q) := ⟨_, rfl⟩
        have hq16 : q ≤ 16 := by rw [← HQ.out]; exact Nat.le_trans (Nat.div_le_self i k) (by omega)
        have e1 : (i : Int) / (k : Int) = (q : Int) := by rw [← HQ.out]; exact (Int.natCast_ediv i k).symm
        have hne : ((u : Int) == (L : Int)) = false := by rw [beq_eq_false_iff_ne]; omega
        have hui : (u : Int) < (L : Int) := by omega
        have HREST : Hid (climbS pairZ i size f (2 * k) (if q % 2 = 0 then pairZ t r else pairZ r t) (zs.drop (u + 1)) = climbS pairZ i size 5 1 leaf zs) := by
          show _ = _
          rw [← HC.out.rest, drop_cons_nth zs u huz, climbS_step hlt, HRR.out, HQ.out]
        clear hcell huz
        by_cases hpar : q % 2 = 0
        · have e4 : (q : Int) % 2 = 0 := by omega
          have HREST' : Hid (climbS pairZ i size f (2 * k) (pairZ t r) (zs.drop (u + 1)) = climbS pairZ i size 5 1 leaf zs) := by
            have := HREST.out
            rw [if_pos hpar] at this
            exact this
          clear hpar
          go_wp2_with fail
          refine (spair1_any _ _ _ t0 t1 r0 r1).mono ?_
          rintro e w' ⟨rfl, rfl⟩
          go_wp2
          go_round
          case rel => exact ⟨pairZ t r, u + 1, 2 * k, f, by omega, rfl, by go_num, by go_num, HREST'.out, by omega, pairZ_bd _ _⟩
          case measure => simp [intOf]; omega
        · have e4 : ((q : Int) % 2 == 0) = false := by simp; omega
          have HREST' : Hid (climbS pairZ i size f (2 * k) (pairZ r t) (zs.drop (u + 1)) = climbS pairZ i size 5 1 leaf zs) := by
            have := HREST.out
            rw [if_neg hpar] at this
            exact this
          clear hpar
          go_wp2_with fail
          refine (spair1_any _ _ _ r0 r1 t0 t1).mono ?_
          rintro e w' ⟨rfl, rfl⟩
          go_wp2
          go_round
          case rel => exact ⟨pairZ r t, u + 1, 2 * k, f, by omega, rfl, by go_num, by go_num, HREST'.out, by omega, pairZ_bd _ _⟩
          case measure => simp [intOf]; omega
      · have huL : u = L := by omega
        subst huL
        have HRF : Hid (R = false) := by
          show _ = _
          rw [← HR.out, HCS.out, ← HC.out.rest, List.drop_eq_nil_of_le (by rw [HL.out]; omega), climbS_none hlt]
          rfl
        have heq : ((u : Int) == (u : Int)) = true := by simp
        go_wp2
        go_ret
        exact ⟨ret_bool HRF.out.symm, rfl⟩
    · have HOUT : Hid (outS pairZ at_ t (placesGo 17 0 n) n (zs.drop u) = checkS pairZ n n i leaf zs) := by
        show _ = _
        rw [HCS.out, ← HC.out.rest, climbS_stop hlt]
        rfl
      clear hform
      go_wp2
      go_loop [14, 16, 17] (fun us ou kk => ∃ (o : Int) (v s f1 : Nat), v ≤ L ∧ s ≤ n ∧ us = .int .i64 (v : Int) ∧ ou = .int .i64 o ∧ kk = .int .i64 (s : Int) ∧ OutSAt zs n i leaf at_ t o v s f1) (fun _ _ kk => n - (intOf kk).toNat)
      case atStart => exact ⟨(n : Int), u, 0, 17, hu, by omega, rfl, rfl, rfl, HOUT.out, by omega, by omega, by omega⟩
      case round =>
        obtain ⟨o, v, s, f1, hv, hs, rfl, rfl, rfl, hE⟩ := hrel
        have HE := Lib.hid hE
        obtain ⟨o0, o1⟩ := hE.bd
        clear hE
        by_cases hsn : s < n
        · obtain ⟨f1, rfl⟩ : ∃ f', f1 = f' + 1 := by
            cases f1 with
            | zero => have := HE.out.fuel; omega
            | succ f => exact ⟨f, rfl⟩
          obtain ⟨z, HZ⟩ : ∃ z, Hid (sizeAt s (n - s) = z) := ⟨_, rfl⟩
          have hz1 : 1 ≤ z := by rw [← HZ.out]; exact sizeAt_pos _ _
          have hz2 : z ≤ n - s := by rw [← HZ.out]; exact sizeAt_le _ _ (by omega)
          by_cases hat : s = at_
          · have HREST : Hid (outS pairZ at_ t (placesGo f1 (s + z) n) (pairZ o t) (zs.drop v) = checkS pairZ n n i leaf zs) := by
              show _ = _
              rw [← HE.out.rest, placesGo_step hsn, HZ.out]
              show _ = (if _ then _ else _)
              rw [if_pos hat]
            subst hat
            have heq : ((s : Int) == (s : Int)) = true := by simp
            go_wp2_with fail
            refine (spair1_any _ _ _ o0 o1 t0 t1).mono ?_
            rintro e w' ⟨rfl, rfl⟩
            go_wp2_with fail
            refine (ssize_any s n _ (by omega) (by omega)).mono ?_
            rintro e w' ⟨rfl, rfl⟩
            rw [HZ.out]
            go_wp2
            go_round
            case rel => exact ⟨pairZ o t, v, s + z, f1, hv, by omega, rfl, rfl, by go_num, HREST.out, by have := HE.out.fuel; omega, pairZ_bd _ _⟩
            case measure => simp [intOf]; omega
          · have hne : ((s : Int) == (at_ : Int)) = false := by rw [beq_eq_false_iff_ne]; omega
            by_cases hvl : v < L
            · have hvz : v < zs.length := by rw [HL.out]; exact hvl
              obtain ⟨b, oo, rfl, hb, hcell⟩ := HI.out (by omega)
              have hcu := hcell v hvz
              obtain ⟨r0, r1⟩ := HD.out.at_ v hvz
              obtain ⟨r, HRR⟩ : ∃ r, Hid (nth zs v = r) := ⟨_, rfl⟩
              rw [HRR.out] at hcu r0 r1
              have hne2 : ((v : Int) == (L : Int)) = false := by rw [beq_eq_false_iff_ne]; omega
              have hui : (v : Int) < (L : Int) := by omega
              have HREST : Hid (outS pairZ at_ t (placesGo f1 (s + z) n) (pairZ o r) (zs.drop (v + 1)) = checkS pairZ n n i leaf zs) := by
                show _ = _
                rw [← HE.out.rest, placesGo_step hsn, HZ.out, drop_cons_nth zs v hvz, HRR.out]
                show _ = (if _ then _ else _)
                rw [if_neg hat]
              clear hcell hvz
              go_wp2_with fail
              refine (spair1_any _ _ _ o0 o1 r0 r1).mono ?_
              rintro e w' ⟨rfl, rfl⟩
              go_wp2_with fail
              refine (ssize_any s n _ (by omega) (by omega)).mono ?_
              rintro e w' ⟨rfl, rfl⟩
              rw [HZ.out]
              go_wp2
              go_round
              case rel => exact ⟨pairZ o r, v + 1, s + z, f1, by omega, by omega, by go_num, rfl, by go_num, HREST.out, by have := HE.out.fuel; omega, pairZ_bd _ _⟩
              case measure => simp [intOf]; omega
            · have hvL : v = L := by omega
              subst hvL
              have HRF : Hid (R = false) := by
                show _ = _
                have hno : checkS pairZ n n i leaf zs = none := by
                  rw [← HE.out.rest, placesGo_step hsn, List.drop_eq_nil_of_le (by rw [HL.out]; omega)]
                  show (if _ then _ else _) = _
                  rw [if_neg hat]
                rw [← HR.out, hno]
                rfl
              have heq : ((v : Int) == (v : Int)) = true := by simp
              go_wp2
              go_ret
              exact ⟨ret_bool HRF.out.symm, rfl⟩
        · have HOE : Hid (checkS pairZ n n i leaf zs = some (o, zs.drop v)) := by
            show _ = _
            rw [← HE.out.rest, placesGo_stop hsn]
            rfl
          by_cases hvL : v = L
          · subst hvL
            have HRF : Hid (R = (o == digest)) := by
              show _ = _
              rw [← HR.out, HOE.out, List.drop_eq_nil_of_le (by rw [HL.out]; omega), Bool.eq_iff_iff, decide_eq_true_eq, beq_iff_eq]
              exact ⟨fun h => by injection h with h; injection h, fun h => by rw [h]⟩
            have heq : ((v : Int) == (v : Int)) = true := by simp
            go_wp2
            go_ret
            exact ⟨ret_bool (by rw [HRF.out]), rfl⟩
          · have HRF : Hid (R = false) := by
              show _ = _
              rw [← HR.out, HOE.out, decide_eq_false_iff_not]
              intro h
              injection h with h
              injection h with _ h
              have := congrArg List.length h
              rw [List.length_drop, HL.out] at this
              simp at this
              omega
            have heq : ((v : Int) == (L : Int)) = false := by rw [beq_eq_false_iff_ne]; omega
            go_wp2
            go_ret
            exact ⟨ret_bool (by rw [HRF.out]), rfl⟩

theorem check_dec (digest leaf : Int) (n i : Nat) (zs : List Int) (h16 : n ≤ 16) (hi : i < n) (hin : treeIn n i leaf zs) : decide (checkS pairZ n n i leaf zs = some (digest, [])) = treeOkB digest n i leaf zs := by
  rw [Bool.eq_iff_iff, decide_eq_true_eq, treeOkB_iff]
  unfold treeOk
  rw [Int.toNat_natCast, Int.toNat_natCast]
  by_cases hl : zs.length = proofLen n i
  · rw [check_same n i leaf zs h16 hi hl]
    exact ⟨fun h => ⟨hin, hl, by injection h with h; injection h⟩, fun h => by rw [h.2.2]⟩
  · exact ⟨fun h => absurd h (check_short n i leaf zs h16 hi hl digest), fun h => absurd h.2.1 hl⟩

set_option maxHeartbeats 2000000 in
theorem stcheck_in (digest leaf : Int) (n i : Nat) (zs : List Int) (A : Option Addr) (cap : Nat) (w : World) (hI : IntsAt w w.heap.size A zs) (hmax : zs.length ≤ maxLen) (h1 : 1 ≤ n) (h16 : n ≤ 16) (hi : i < n) (hl0 : 0 ≤ leaf) (hl1 : leaf < 991) (hz : digB zs = true) :
    Calls Tryd.prog 42 #[.int .i64 digest, .int .i64 (n : Int), .int .i64 (i : Int), .int .i64 leaf, .slice A zs.length cap] w fun e w' => e = .returned (.bool (treeOkB digest n i leaf zs)) ∧ w = w' := by
  have HI := Lib.hid hI
  have HM := Lib.hid hmax
  have HZ := Lib.hid hz
  have HD := Lib.hid (digB_yes hz)
  have HR := Lib.hid (check_dec digest leaf n i zs h16 hi ⟨by omega, by omega, ⟨hl0, hl1⟩, hz⟩)
  clear hI hz hmax
  go_enter Tryd.func42, Tryd.ntmps42
  go_wp2_with fail
  refine (in_yes _ _ _ _ (by omega) (by omega)).mono ?_
  rintro e w' ⟨rfl, rfl⟩
  go_wp2_with fail
  refine (in_yes _ _ _ _ (by omega) (by omega)).mono ?_
  rintro e w' ⟨rfl, rfl⟩
  go_wp2_with fail
  refine (sdig_yes _ _ hl0 hl1).mono ?_
  rintro e w' ⟨rfl, rfl⟩
  go_wp2_with fail
  refine (sdigests_any _ _ zs _ HI.out HM.out).mono ?_
  rintro e w' ⟨rfl, rfl⟩
  rw [HZ.out]
  go_wp2_with fail
  refine (lcheck_any digest leaf n i zs _ _ _ HI.out HM.out h1 h16 hi hl0 hl1 HD.out).mono ?_
  rintro e w' ⟨rfl, rfl⟩
  rw [HR.out]
  go_wp2
  go_ret
  exact ⟨rfl, rfl⟩

set_option maxHeartbeats 2000000 in
theorem stcheck_out (digest n i leaf : Int) (zs : List Int) (A : Option Addr) (cap : Nat) (w : World) (hI : IntsAt w w.heap.size A zs) (hmax : zs.length ≤ maxLen) (hno : ¬ treeIn n i leaf zs) (hn0 : n ≤ 9223372036854775807) (hn1 : -9223372036854775808 ≤ n) :
    Calls Tryd.prog 42 #[.int .i64 digest, .int .i64 n, .int .i64 i, .int .i64 leaf, .slice A zs.length cap] w fun e w' => e = .returned (.bool false) ∧ w = w' := by
  have HI := Lib.hid hI
  have HM := Lib.hid hmax
  clear hI hmax
  by_cases h1 : 1 ≤ n ∧ n ≤ 16
  · by_cases h2 : 0 ≤ i ∧ i < n
    · by_cases h3 : 0 ≤ leaf ∧ leaf < 991
      · have HZ : Hid (digB zs = false) := by
          show _ = _
          rw [Bool.eq_false_iff]
          exact fun e => hno ⟨h1, h2, h3, e⟩
        obtain ⟨a0, a1⟩ := h1
        obtain ⟨b0, b1⟩ := h2
        obtain ⟨c0, c1⟩ := h3
        clear hno
        go_enter Tryd.func42, Tryd.ntmps42
        go_wp2_with fail
        refine (in_yes _ _ _ _ (by omega) (by omega)).mono ?_
        rintro e w' ⟨rfl, rfl⟩
        go_wp2_with fail
        refine (in_yes _ _ _ _ (by omega) (by omega)).mono ?_
        rintro e w' ⟨rfl, rfl⟩
        go_wp2_with fail
        refine (sdig_yes _ _ c0 c1).mono ?_
        rintro e w' ⟨rfl, rfl⟩
        go_wp2_with fail
        refine (sdigests_any _ _ zs _ HI.out HM.out).mono ?_
        rintro e w' ⟨rfl, rfl⟩
        rw [HZ.out]
        go_wp2
        go_ret
        exact ⟨rfl, rfl⟩
      · have H3 := Lib.hid h3
        obtain ⟨a0, a1⟩ := h1
        obtain ⟨b0, b1⟩ := h2
        clear hno h3
        go_enter Tryd.func42, Tryd.ntmps42
        go_wp2_with fail
        refine (in_yes _ _ _ _ (by omega) (by omega)).mono ?_
        rintro e w' ⟨rfl, rfl⟩
        go_wp2_with fail
        refine (in_yes _ _ _ _ (by omega) (by omega)).mono ?_
        rintro e w' ⟨rfl, rfl⟩
        go_wp2_with fail
        refine (sdig_no _ _ H3.out).mono ?_
        rintro e w' ⟨rfl, rfl⟩
        go_wp2
        go_ret
        exact ⟨rfl, rfl⟩
    · have H2 : Hid (¬ (0 ≤ i ∧ i ≤ n - 1)) := fun k => h2 ⟨k.1, by omega⟩
      obtain ⟨a0, a1⟩ := h1
      clear hno h2
      go_enter Tryd.func42, Tryd.ntmps42
      go_wp2_with fail
      refine (in_yes _ _ _ _ (by omega) (by omega)).mono ?_
      rintro e w' ⟨rfl, rfl⟩
      go_wp2_with fail
      refine (in_no _ _ _ _ H2.out).mono ?_
      rintro e w' ⟨rfl, rfl⟩
      go_wp2
      go_ret
      exact ⟨rfl, rfl⟩
  · have H1 := Lib.hid h1
    clear hno h1
    go_enter Tryd.func42, Tryd.ntmps42
    go_wp2_with fail
    refine (in_no _ _ _ _ H1.out).mono ?_
    rintro e w' ⟨rfl, rfl⟩
    go_wp2
    go_ret
    exact ⟨rfl, rfl⟩

theorem stcheck_any (digest n i leaf : Int) (zs : List Int) (A : Option Addr) (cap : Nat) (w : World) (hI : IntsAt w w.heap.size A zs) (hmax : zs.length ≤ maxLen) (hn0 : n ≤ 9223372036854775807) (hn1 : -9223372036854775808 ≤ n) :
    Calls Tryd.prog 42 #[.int .i64 digest, .int .i64 n, .int .i64 i, .int .i64 leaf, .slice A zs.length cap] w fun e w' => e = .returned (.bool (treeOkB digest n i leaf zs)) ∧ w = w' := by
  by_cases h : treeIn n i leaf zs
  · obtain ⟨h1, h2, h3, h4⟩ := h
    obtain ⟨n', rfl⟩ := Int.eq_ofNat_of_zero_le (show 0 ≤ n by omega)
    obtain ⟨i', rfl⟩ := Int.eq_ofNat_of_zero_le (show 0 ≤ i by omega)
    exact stcheck_in digest leaf n' i' zs A cap w hI hmax (by omega) (by omega) (by omega) h3.1 h3.2 h4
  · rw [treeOkB_no fun k => h k.1]
    exact stcheck_out digest n i leaf zs A cap w hI hmax h hn0 hn1

end Go.Proofs.YtgklkceoafohmaaDoor
