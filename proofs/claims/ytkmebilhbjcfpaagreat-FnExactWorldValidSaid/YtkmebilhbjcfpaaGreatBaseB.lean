/- Nodes of trees in memory, and the contracts of knownTree, pairTrees, treeOf: the last makes a complete tree of its leaves. Conditions: the leaves are valid digests, a power of two of them; roots are digests. Slices of pointers to nodes: how they read, and how one is appended. Conditions: the lengths stay below 2^31. Contracts of treeSizes, treesOf, treeRoots, peaksDigest, TreePeaks and TreeDigest. -/
import Derived.Test.YtkmebilhbjcfpaaGreatBaseA
import Derived.Deep.RegionHeld3
import Derived.Deep.AppendLies
import Derived.Laws.Pointers
namespace Go.Proofs.YtkmebilhbjcfpaaGreat
open Go.RowKit
set_option linter.unusedVariables false

/-- A block that is known whole. -/
def Blk (w : World) (g : Nat) (t : TypeId) (cs : Array Value) : Prop := w.heap[g]? = some (.cells cs t (0, 0))
section
variable {w w' : World} {g : Nat} {t : TypeId} {cs : Array Value}
theorem Blk.lt (h : Blk w g t cs) : g < w.heap.size := by
  rcases Nat.lt_or_ge g w.heap.size with hlt | hge
  · exact hlt
  · unfold Blk at h; rw [Array.getElem?_eq_none hge] at h; cases h
theorem Blk.cell (h : Blk w g t cs) (i : Nat) : w.cell? ⟨g, i, none⟩ = cs[i]? := cell_of_row w g i cs t (0, 0) h
theorem Blk.new (w : World) (t : TypeId) (cs : Array Value) : Blk (w.alloc (.cells cs t)) w.heap.size t cs := heap_alloc_new w _
theorem Blk.drewN (h : Blk w g t cs) (n : Nat) : Blk (w.drewN n) g t cs := h
theorem Blk.alloc (h : Blk w g t cs) (o : Obj) : Blk (w.alloc o) g t cs := (Below.heap_alloc w o g h.lt).trans h
theorem Blk.below {B : Nat} (h : Blk w g t cs) (hb : Below B w w') (hg : g < B) : Blk w' g t cs := (hb.block g hg).trans h
theorem Blk.grown {row : Option Nat} (h : Blk w g t cs) (hb : w.grownBy w' row) (hg : some g ≠ row) : Blk w' g t cs := (hb.block g h.lt hg).trans h
theorem Blk.ne_ {g' : Nat} {t' : TypeId} {cs' : Array Value} (h : Blk w g t cs) (h' : Blk w g' t' cs') (hne : t ≠ t') : g ≠ g' := by
  rintro rfl
  unfold Blk at h h'
  rw [h] at h'
  injection h' with h'
  injection h' with _ ht
  exact hne ht
theorem own_blk_ne {base : Nat} {e : TypeId} {size n : Nat} {v : Value} {xs : List Value} (h : w.ownsRow base e size v n xs) (hg : Blk w g t cs) (hne : e ≠ t) : v.ownBlock ≠ some g := by
  rcases h.2 with ⟨rfl, _⟩ | ⟨g', cap, cur, rfl, _, hh, _⟩
  · simp [Value.ownBlock]
  · intro he
    have : g' = g := by simpa [Value.ownBlock] using he
    subst this
    exact Blk.ne_ (t := e) hh hg hne rfl
end

/-- A node with a root and a number of leaves; its halves are whatever they are. -/
def Node (w : World) (g : Nat) (r s : Int) (x y : Option Addr) : Prop := Blk w g 202 #[.int .i64 r, .int .i64 s, .pointer x, .pointer y]
theorem Node.c0 {w : World} {g : Nat} {r s : Int} {x y : Option Addr} (h : Node w g r s x y) : w.cell? ⟨g, 0, none⟩ = some (.int .i64 r) := Blk.cell h 0
theorem Node.c1 {w : World} {g : Nat} {r s : Int} {x y : Option Addr} (h : Node w g r s x y) : w.cell? ⟨g, 1, none⟩ = some (.int .i64 s) := Blk.cell h 1
theorem Node.c2 {w : World} {g : Nat} {r s : Int} {x y : Option Addr} (h : Node w g r s x y) : w.cell? ⟨g, 2, none⟩ = some (.pointer x) := Blk.cell h 2
theorem Node.c3 {w : World} {g : Nat} {r s : Int} {x y : Option Addr} (h : Node w g r s x y) : w.cell? ⟨g, 3, none⟩ = some (.pointer y) := Blk.cell h 3

/-- All nodes of w are as they were. -/
def Kept (w w' : World) : Prop := ∀ g r s x y, Node w g r s x y → Node w' g r s x y
theorem Kept.refl (w : World) : Kept w w := fun _ _ _ _ _ h => h
theorem Kept.trans {a b c : World} (h : Kept a b) (k : Kept b c) : Kept a c := fun g r s x y n => k g r s x y (h g r s x y n)
theorem Kept.of_below {w w' : World} (h : Below w.heap.size w w') : Kept w w' := fun g r s x y n => Blk.below n h (Blk.lt n)
theorem Kept.drewN (w : World) (n : Nat) : Kept w (w.drewN n) := fun g r s x y k => k
theorem Kept.alloc (w : World) (o : Obj) : Kept w (w.alloc o) := fun g r s x y k => Blk.alloc k o

/-- A complete tree of 2^d leaves, linked through pointers. -/
def TreeAt (w : World) : Nat → Nat → List Int → Prop
  | 0, g, l => l.length = 1 ∧ Node w g (nth l 0) 1 none none
  | d + 1, g, l => l.length = 2 ^ (d + 1) ∧ ∃ x y, Node w g (rootG pairZ 0 4 l) (2 ^ (d + 1) : Nat) (some ⟨x, 0, none⟩) (some ⟨y, 0, none⟩) ∧ TreeAt w d x (l.take (2 ^ d)) ∧ TreeAt w d y (l.drop (2 ^ d))
theorem TreeAt.kept {w w' : World} (hk : Kept w w') : ∀ {d g : Nat} {l : List Int}, TreeAt w d g l → TreeAt w' d g l := by
  intro d
  induction d with
  | zero => intro g l h; exact ⟨h.1, hk _ _ _ _ _ h.2⟩
  | succ d ih =>
    intro g l h
    obtain ⟨hl, x, y, hn, hx, hy⟩ := h
    exact ⟨hl, x, y, hk _ _ _ _ _ hn, ih hx, ih hy⟩
theorem TreeAt.length {w : World} {d g : Nat} {l : List Int} (h : TreeAt w d g l) : l.length = 2 ^ d := by
  cases d with
  | zero => exact h.1
  | succ d => exact h.1
/-- Its node. -/
theorem TreeAt.node {w : World} {d g : Nat} {l : List Int} (h : TreeAt w d g l) : ∃ x y, Node w g (rootG pairZ 0 4 l) (2 ^ d : Nat) x y := by
  cases d with
  | zero => exact ⟨none, none, by have := h.2; rw [← headD_nth, ← rootG_one pairZ 0 4 l h.1] at this; exact this⟩
  | succ d => obtain ⟨_, x, y, hn, _⟩ := h; exact ⟨_, _, hn⟩

set_option maxHeartbeats 400000 in
theorem known_any (r s : Int) (w : World) :
    Calls Tryz.prog 182 #[.int .i64 r, .int .i64 s] w fun e w' => e = .returned (.pointer (some ⟨w.heap.size, 0, none⟩)) ∧ w' = w.alloc (.cells #[.int .i64 r, .int .i64 s, .pointer none, .pointer none] 202) := by
  go_enter Tryz.func182, Tryz.ntmps182
  go_wp2
  go_ret
  exact ⟨rfl, rfl⟩

def Paired (w : World) (p q : Nat) (r s : Int) (e : Ending) (w' : World) : Prop :=
  ∃ g, e = .returned (.pointer (some ⟨g, 0, none⟩)) ∧ Node w' g r s (some ⟨p, 0, none⟩) (some ⟨q, 0, none⟩) ∧ w.heap.size ≤ g ∧ Below w.heap.size w w'

set_option maxRecDepth 100000 in
set_option maxHeartbeats 2000000 in
theorem pairT_any (p q : Nat) (r s r' s' : Int) (x y x' y' : Option Addr) (w : World) (hp : Node w p r s x y) (hq : Node w q r' s' x' y') (h0 : 0 ≤ r) (h1 : r < 991) (h2 : 0 ≤ r') (h3 : r' < 991) (h4 : 0 ≤ s) (h5 : s ≤ 100) (h6 : 0 ≤ s') (h7 : s' ≤ 100) :
    Calls Tryz.prog 183 #[.pointer (some ⟨p, 0, none⟩), .pointer (some ⟨q, 0, none⟩)] w (Paired w p q (pairZ r r') (s + s')) := by
  have c0 := hp.c0
  have c1 := hp.c1
  have d0 := hq.c0
  have d1 := hq.c1
  have hs : IntKind.i64.wrap (s + s') = s + s' := IntWalk.i64_in _ (by omega)
  go_enter Tryz.func183, Tryz.ntmps183
  go_wp2_with fail
  go_region_held3 (fun w' => w'.cell? ⟨p, 0, none⟩ = some (.int .i64 r) ∧ w'.cell? ⟨p, 1, none⟩ = some (.int .i64 s) ∧ w'.cell? ⟨q, 0, none⟩ = some (.int .i64 r') ∧ w'.cell? ⟨q, 1, none⟩ = some (.int .i64 s')) (go_keep)
    (first | (go_at_call 172; refine (with_any _ _ _ (by omega) (by omega) (by omega) (by omega)).mono ?_; rintro e w' ⟨rfl, rfl⟩))
  go_wp2
  go_ret
  exact ⟨w.heap.size, rfl, (Blk.new w _ _), Nat.le_refl _, below_drew ((Below.refl _ _).alloc (Nat.le_refl _) _)⟩

/-- What treeOf hands back. -/
def Treed (w : World) (d : Nat) (l : List Int) (e : Ending) (w' : World) : Prop :=
  ∃ g, e = .returned (.pointer (some ⟨g, 0, none⟩)) ∧ TreeAt w' d g l ∧ Below w.heap.size w w'

set_option maxRecDepth 100000 in
set_option maxHeartbeats 2000000 in
theorem treeOf_go : ∀ (d : Nat) (zs : List Int) (b o cap : Nat) (w : World), IntsAt w w.heap.size (some ⟨b, o, none⟩) zs → zs.length = 2 ^ d → d ≤ 4 → zs.length ≤ cap → cap ≤ maxLen → Digs zs →
    Calls Tryz.prog 174 #[.slice (some ⟨b, o, none⟩) zs.length cap] w (Treed w d zs) := by
  intro d
  induction d with
  | zero =>
    intro zs b o cap w hI hn1 hd4 hcap hmax hd
    have hc := (hI.lt (by omega)).2 0 (by omega)
    rw [Nat.add_zero] at hc
    have HN : Hid (zs.length = 1) := hn1
    rw [HN.out]
    clear hI hd hn1 hcap
    go_enter Tryz.func174, Tryz.ntmps174
    go_wp2_with fail
    refine (known_any _ _ _).mono ?_
    rintro e w' ⟨rfl, rfl⟩
    go_wp2
    go_ret
    exact ⟨w.heap.size, rfl, ⟨HN.out, Blk.new w _ _⟩, (Below.refl _ _).alloc (Nat.le_refl _) _⟩
  | succ d ih =>
    intro zs b o cap w hI hn hd4 hcap hmax hd
    obtain ⟨h, HH⟩ : ∃ h, Hid (2 ^ d = h) := ⟨2 ^ d, Lib.hid rfl⟩
    have hh1 : 1 ≤ h := by rw [← HH.out]; exact Nat.pos_of_ne_zero (by simp)
    have hh8 : h ≤ 8 := by
      rw [← HH.out]
      have : (2 : Nat) ^ d ≤ 2 ^ 3 := Nat.pow_le_pow_right (by omega) (by omega)
      omega
    have hn2 : zs.length = h + h := by rw [hn, Nat.pow_succ, HH.out]; omega
    have hl1 : (zs.take h).length = h := by rw [List.length_take]; omega
    have hl2 : (zs.drop h).length = h := by rw [List.length_drop]; omega
    obtain ⟨r1, HR1⟩ : ∃ r, Hid (rootG pairZ 0 4 (zs.take h) = r) := ⟨_, rfl⟩
    obtain ⟨r2, HR2⟩ : ∃ r, Hid (rootG pairZ 0 4 (zs.drop h) = r) := ⟨_, rfl⟩
    have b1 := rootZ_bd 4 (zs.take h) (hd.take h) (by omega)
    have b2 := rootZ_bd 4 (zs.drop h) (hd.drop h) (by omega)
    rw [HR1.out] at b1
    rw [HR2.out] at b2
    obtain ⟨b10, b11⟩ := b1
    obtain ⟨b20, b21⟩ := b2
    have HE : Hid (rootG pairZ 0 4 zs = pairZ r1 r2) := by
      show _ = _
      rw [rootG_fuel pairZ 0 4 5 zs (by omega) (by omega) (by omega), rootG_step pairZ 0 4 zs (by omega), show zs.length / 2 = h by omega, HR1.out, HR2.out]
    have HI := Lib.hid hI
    have C1 : Hid (∀ W : World, Below w.heap.size w W → Calls Tryz.prog 174 #[.slice (some ⟨b, o, none⟩) h cap] W (Treed W d (zs.take h))) := fun W hW => by
      have := ih (zs.take h) b o cap W (((hI.first h).below hW (Nat.le_refl _)).more hW.size) (by rw [hl1, HH.out]) (by omega) (by omega) hmax (hd.take h)
      rw [hl1] at this
      exact this
    obtain ⟨n, HL⟩ : ∃ n, Hid (zs.length = n) := ⟨_, rfl⟩
    have hnh : n = h + h := by rw [← HL.out]; exact hn2
    have C2 : Hid (∀ W : World, Below w.heap.size w W → Calls Tryz.prog 174 #[.slice (some ⟨b, o + h, none⟩) (n - h) (cap - h)] W (Treed W d (zs.drop h))) := fun W hW => by
      have hp := hI.part h zs.length rfl
      rw [List.take_of_length_le (by omega)] at hp
      have := ih (zs.drop h) b (o + h) (cap - h) W ((hp.below hW (Nat.le_refl _)).more hW.size) (by rw [hl2, HH.out]) (by omega) (by omega) (by omega) (hd.drop h)
      rw [hl2] at this
      rw [hnh, Nat.add_sub_cancel]
      exact this
    have HN : Hid (n = h + h) := hnh
    rw [HL.out] at hcap ⊢
    unfold maxLen at hmax
    have hi0 : (0 : Int) ≤ (h : Int) := by omega
    have hi2 : (h : Int) ≤ (cap : Int) := by omega
    have hi3 : (h : Int) ≤ (n : Int) := by omega
    have hi4 : (n : Int) ≤ (cap : Int) := by omega
    have hn16 : n ≤ 16 := by omega
    have hne : ¬ cap = h := by omega
    have h2n : ((n : Int) == 1) = false := by simp; omega
    clear hnh
    clear hI hd hn hn2 ih hl1 hl2
    go_enter Tryz.func174, Tryz.ntmps174
    go_wp2_with fail
    rw [show (n : Int) / 2 = (h : Int) from by have := HN.out; omega]
    go_region_held3 (fun _ => True) (trivial)
      (first
        | (go_at_call 174; (with_reducible refine (C1.out _ (by first | exact Below.refl _ _ | exact below_drew (Below.refl _ _))).mono ?_); rintro e w1 ⟨g1, rfl, ht1, hb1⟩; have HT1 := Lib.hid ht1; have HB1 : Hid (Below w.heap.size w w1) := below_drew_l hb1; clear ht1 hb1)
        | (go_at_call 174; (with_reducible refine (C2.out _ HB1.out).mono ?_); rintro e w2 ⟨g2, rfl, ht2, hb2⟩; have HT2 := Lib.hid ht2; have HB2 := Lib.hid hb2; clear ht2 hb2; obtain ⟨x1, y1, hn1⟩ := (HT1.out.kept (Kept.of_below HB2.out)).node; obtain ⟨x2, y2, hn2⟩ := HT2.out.node; have HN1 := Lib.hid hn1; have HN2 := Lib.hid hn2; clear hn1 hn2; rw [HR1.out] at HN1; rw [HR2.out] at HN2)
        | (go_at_call 183; (with_reducible refine (pairT_any g1 g2 _ _ _ _ _ _ _ _ _ HN1.out HN2.out (by omega) (by omega) (by omega) (by omega) (Int.natCast_nonneg _) (by rw [HH.out]; omega) (Int.natCast_nonneg _) (by rw [HH.out]; omega)).mono ?_); rintro e w3 ⟨g3, rfl, hn3, hg3, hb3⟩; have HN3 := Lib.hid hn3; have HB3 := Lib.hid hb3; clear hn3 hb3))
    go_wp2
    go_ret
    refine ⟨g3, rfl, ⟨by rw [HL.out, HN.out, Nat.pow_succ, HH.out]; omega, g1, g2, ?_, ?_, ?_⟩, ?_⟩
    · have := HN3.out
      rw [HE.out]
      rw [show ((2 ^ (d + 1) : Nat) : Int) = ((2 ^ d : Nat) : Int) + ((2 ^ d : Nat) : Int) from by rw [Nat.pow_succ]; omega]
      exact this
    · rw [HH.out]; exact HT1.out.kept ((Kept.of_below HB2.out).trans (Kept.of_below HB3.out))
    · rw [HH.out]; exact HT2.out.kept (Kept.of_below HB3.out)
    · exact (HB1.out.trans (HB2.out.mono HB1.out.size)).trans (HB3.out.mono (Nat.le_trans HB1.out.size HB2.out.size))

end Go.Proofs.YtkmebilhbjcfpaaGreat

namespace Go.Proofs.YtkmebilhbjcfpaaGreat
open Go.RowKit
set_option linter.unusedVariables false

abbrev ptr (g : Nat) : Value := .pointer (some ⟨g, 0, none⟩)
theorem ptr_info : (Tryz.prog.info? 190).map (fun i => (i.zero, i.size, i.bytes)) = some (some (.pointer none), 1, 8) := by kernel_rfl

/-- The k-th block. -/
def gth (zs : List Nat) (k : Nat) : Nat := zs.getD k 0
theorem gth_eq (zs : List Nat) (k : Nat) : gth zs k = zs.getD k 0 := rfl
def ptrs (zs : List Nat) : List Value := zs.map ptr
theorem ptrs_length (zs : List Nat) : (ptrs zs).length = zs.length := List.length_map _
theorem ptrs_append (a b : List Nat) : ptrs (a ++ b) = ptrs a ++ ptrs b := List.map_append
theorem ptrs_one (zs : List Nat) : ∀ u ∈ ptrs zs, u.oneCell' = true := by
  intro u hu
  obtain ⟨z, _, rfl⟩ := List.mem_map.1 hu
  rfl
theorem ptrs_get (zs : List Nat) (k : Nat) (h : k < zs.length) : (ptrs zs)[k]? = some (ptr (gth zs k)) := by
  unfold ptrs gth
  rw [List.getElem?_map, List.getElem?_eq_getElem h, List.getD_eq_getElem?_getD, List.getElem?_eq_getElem h]
  rfl

/-- The slice at A begins with pointers to the blocks zs; its cells lie below block B. -/
def PtrsAt (w : World) (B : Nat) (A : Option Addr) (zs : List Nat) : Prop :=
  0 < zs.length → ∃ b o, A = some ⟨b, o, none⟩ ∧ b < B ∧ ∀ k, k < zs.length → w.cell? ⟨b, o + k, none⟩ = some (.pointer (some ⟨gth zs k, 0, none⟩))

section
variable {w w' : World} {B B' : Nat} {A : Option Addr} {zs : List Nat}
theorem PtrsAt.nil : PtrsAt w B A [] := fun h => absurd h (by simp)
theorem PtrsAt.at_ (h : PtrsAt w B A zs) (hn : 0 < zs.length) : ∃ b o, A = some ⟨b, o, none⟩ ∧ b < B ∧ ∀ k, k < zs.length → w.cell? ⟨b, o + k, none⟩ = some (.pointer (some ⟨gth zs k, 0, none⟩)) := h hn
theorem PtrsAt.keep (h : PtrsAt w B A zs) (hk : ∀ p : Addr, p.block < B → w'.cell? p = w.cell? p) : PtrsAt w' B A zs := fun hn => by
  obtain ⟨b, o, e, hb, hc⟩ := h hn
  exact ⟨b, o, e, hb, fun k hk' => (hk _ hb).trans (hc k hk')⟩
theorem PtrsAt.more (h : PtrsAt w B A zs) (hB : B ≤ B') : PtrsAt w B' A zs := fun hn => by
  obtain ⟨b, o, e, hb, hc⟩ := h hn
  exact ⟨b, o, e, by omega, hc⟩
theorem PtrsAt.below {C : Nat} (h : PtrsAt w B A zs) (hb : Below C w w') (hC : B ≤ C) : PtrsAt w' B A zs := h.keep fun _ hp => hb.cell (by omega)
theorem PtrsAt.drewN (h : PtrsAt w B A zs) (k : Nat) : PtrsAt (w.drewN k) B A zs := h
theorem PtrsAt.alloc (h : PtrsAt w B A zs) (hB : B ≤ w.heap.size) (o : Obj) : PtrsAt (w.alloc o) B A zs := h.keep fun p hp => World.cell?_alloc_lt w o p (by omega)
theorem PtrsAt.grown {row : Option Nat} (h : PtrsAt w B A zs) (hg : w.grownBy w' row) (hB : B ≤ w.heap.size) (hr : ∀ g, row = some g → B ≤ g) : PtrsAt w' B A zs :=
  h.keep fun p hp => World.cell?_of_block (hg.block p.block (by omega) (fun e => by have := hr _ e.symm; omega))
/-- A part of such a slice. -/
theorem PtrsAt.part (h : PtrsAt w B A zs) (s n : Nat) {b o : Nat} (hA : A = some ⟨b, o, none⟩) : PtrsAt w B (some ⟨b, o + s, none⟩) ((zs.drop s).take n) := fun hn => by
  rw [List.length_take, List.length_drop] at hn
  obtain ⟨b', o', e, hb, hc⟩ := h (by omega)
  subst hA
  injection e with e
  injection e with e1 e2
  subst e1 e2
  refine ⟨b, o + s, rfl, hb, fun k hk => ?_⟩
  rw [List.length_take, List.length_drop] at hk
  rw [Nat.add_assoc, hc (s + k) (by omega), gth, gth, List.getD_eq_getElem?_getD, List.getD_eq_getElem?_getD, List.getElem?_take_of_lt (by omega), List.getElem?_drop]
theorem PtrsAt.first (h : PtrsAt w B A zs) (n : Nat) : PtrsAt w B A (zs.take n) := fun hn => by
  rw [List.length_take] at hn
  obtain ⟨b, o, e, hb, hc⟩ := h (by omega)
  refine ⟨b, o, e, hb, fun k hk => ?_⟩
  rw [List.length_take] at hk
  rw [hc k (by omega), gth, gth, List.getD_eq_getElem?_getD, List.getD_eq_getElem?_getD, List.getElem?_take_of_lt (by omega)]
theorem PtrsAt.lt {b o : Nat} (h : PtrsAt w B (some ⟨b, o, none⟩) zs) (hn : 0 < zs.length) : b < B ∧ ∀ k, k < zs.length → w.cell? ⟨b, o + k, none⟩ = some (.pointer (some ⟨gth zs k, 0, none⟩)) := by
  obtain ⟨b', o', e, hb, hc⟩ := h hn
  injection e with e
  injection e with e1 e2
  subst e1 e2
  exact ⟨hb, hc⟩
end

/-- A slice of the call's own (from block base on) that holds pointers to the blocks zs. -/
def OwnPtrs (w : World) (base : Nat) (A : Option Addr) (cap : Nat) (zs : List Nat) : Prop :=
  w.ownsRow base 190 1 (.slice A zs.length cap) zs.length (ptrs zs)
section
variable {w w' : World} {base : Nat} {A : Option Addr} {cap : Nat} {zs : List Nat}
theorem OwnPtrs.ints (h : OwnPtrs w base A cap zs) : PtrsAt w w.heap.size A zs := fun hn => by
  obtain ⟨g, c, hv, _, hlt⟩ := World.ownsRow.form h hn
  injection hv with hA _ _
  subst hA
  refine ⟨g, 0, rfl, hlt, fun k hk => ?_⟩
  have := World.ownsRow.cells h (g := g) rfl k (ptr (gth zs k)) (ptrs_get zs k hk)
  rw [Addr.add_lit] at this
  exact this
theorem OwnPtrs.le (h : OwnPtrs w base A cap zs) : zs.length ≤ cap ∧ cap ≤ maxLen := by
  rcases h.2 with ⟨hv, hn⟩ | ⟨g, c, cur, hv, _, _, h1, h2, _⟩
  · injection hv with _ _ hc; exact ⟨by omega, by omega⟩
  · injection hv with _ _ hc; subst hc; exact ⟨h1, h2⟩
theorem OwnPtrs.below (h : OwnPtrs w base A cap zs) (hb : Below w.heap.size w w') : OwnPtrs w' base A cap zs :=
  World.ownsRow.kept h (grown_of_below hb none) (by
    rcases h.2 with ⟨hv, _⟩ | ⟨g, c, cur, hv, _⟩
    · left; rw [hv]; rfl
    · right; rw [hv]; simp [Value.ownBlock])
theorem OwnPtrs.drewN (h : OwnPtrs w base A cap zs) (n : Nat) : OwnPtrs (w.drewN n) base A cap zs := h
/-- An empty slice that was just made. -/
theorem OwnPtrs.new (w : World) : OwnPtrs (w.alloc (.cells #[] 190)) w.heap.size (some ⟨w.heap.size, 0, none⟩) 0 [] :=
  World.ownsRow_lit w #[] 0 (Nat.le_refl _) (by simp [maxLen]) (by simp)
theorem OwnPtrs.base_le (h : OwnPtrs w base A cap zs) {b : Nat} (hb : b ≤ base) : OwnPtrs w b A cap zs := by
  refine ⟨h.1, ?_⟩
  rcases h.2 with h0 | ⟨g, c, cur, hv, hg, hr⟩
  · exact .inl h0
  · exact .inr ⟨g, c, cur, hv, by omega, hr⟩
end


/-- What an append leaves. -/
structure AppendedP (W : World) (base : Nat) (A : Option Addr) (n c : Nat) (zs : List Nat) (v : Value) (w' : World) : Prop where
  own : ∃ A' c', v = .slice A' zs.length c' ∧ OwnPtrs w' base A' c' zs
  grown : W.grownBy w' (Value.ownBlock (.slice A n c))
  below : Below base W w'

theorem OwnPtrs.far {w : World} {base : Nat} {A : Option Addr} {cap n : Nat} {zs : List Nat} (h : OwnPtrs w base A cap zs) : ∀ g, Value.ownBlock (.slice A n cap) = some g → base ≤ g := by
  intro g hg
  rcases h.2 with ⟨hv, _⟩ | ⟨g', c, cur, hv, hb, _⟩
  · injection hv with hA _ _; subst hA; cases hg
  · injection hv with hA _ _; subst hA
    simp [Value.ownBlock] at hg
    omega
theorem OwnPtrs.alloc {w : World} {base : Nat} {A : Option Addr} {cap : Nat} {zs : List Nat} (h : OwnPtrs w base A cap zs) (o : Obj) : OwnPtrs (w.alloc o) base A cap zs := World.ownsRow.alloc h o

set_option maxRecDepth 100000 in
theorem run_app_ptrs (W : World) (base ty : Nat) (A : Option Addr) (c : Nat) (ds : List Nat) (B : Option Addr) (bc : Nat) (zs : List Nat) (hown : OwnPtrs W base A c ds) (hI : PtrsAt W W.heap.size B zs) (hl : ds.length + zs.length ≤ 2147483647) (hbase : base ≤ W.heap.size) (hB : B = none → bc = 0) :
    ∃ v w', (Builtin.append_ #[182, 182] ty #[.slice A ds.length c, .slice B zs.length bc]).run Tryz.prog W = .ok v w' ∧ AppendedP W base A ds.length c (ds ++ zs) v w' := by
  obtain ⟨i0, hi0, hz0, hz1, hz2⟩ := info_parts ptr_info
  rcases B with _ | ad
  · have h0 : zs = [] := by
      cases zs with
      | nil => rfl
      | cons z zs => obtain ⟨b, o, e, _⟩ := hI (by simp); cases e
    subst h0
    refine ⟨.slice A ds.length c, W, ?_, ⟨A, c, by simp, by simpa using hown⟩, World.grownBy.refl W _, Below.refl _ _⟩
    have hk := hown
    unfold OwnPtrs at hk
    rcases hk.2 with ⟨hv, hn⟩ | ⟨g, cap, cur, hv, _, _, hnc, _⟩
    · rw [hv]
      simp [Builtin.append_, run_underlying Tryz.underlying182, sizeOf, typeInfo, hi0, Builtin.lenOf, Builtin.firstCells]
    · rw [hv]
      simp [Builtin.append_, run_underlying Tryz.underlying182, sizeOf, typeInfo, hi0, Builtin.lenOf, Builtin.firstCells, hnc, storeCells]
  · have hcells : ∀ j u, (ptrs zs)[j]? = some u → W.cell? (ad.add j) = some u := by
      intro j u hu
      have hj : j < zs.length := by
        have := (List.getElem?_eq_some_iff.1 hu).1
        rwa [ptrs_length] at this
      obtain ⟨b, o, e, _, hc⟩ := hI (by omega)
      injection e with e
      subst e
      rw [ptrs_get zs j hj] at hu
      rw [Addr.add_lit, ← hu]
      exact hc j hj
    obtain ⟨v', w', hrun, h2, h3, _, h5⟩ := run_append_own_at (P := Tryz.prog) W base 182 ty 190 i0 _ 1 8 Tryz.underlying182 hi0 hz0 hz1 hz2 rfl (by omega) _ ds.length (ptrs ds) hown ad zs.length bc (ptrs zs) (by rw [ptrs_length, Nat.mul_one]) hcells (ptrs_one zs) (by unfold maxLen; omega) (by omega) hbase
    refine ⟨v', w', hrun, ?_, h3, (Below.refl _ _).grown h3 hbase (fun k hk => hown.far k hk)⟩
    rw [← ptrs_append] at h2
    rcases h2.2 with ⟨hv, hn⟩ | ⟨g, cap, cur, hv, hr⟩
    · refine ⟨none, 0, ?_, ?_⟩
      · rw [hv, List.length_append, hn]
      · unfold OwnPtrs; rw [List.length_append, hn]; rw [hn, hv] at h2; exact h2
    · refine ⟨some ⟨g, 0, none⟩, cap, ?_, ?_⟩
      · rw [hv, List.length_append]
      · unfold OwnPtrs; rw [List.length_append]; rw [hv] at h2; exact h2

theorem wp_app_ptrs {o : Oper} {a : Act} {K : Act → World → Prop} {Q : Exit → Act → World → Prop} (s x : Operand) (ho : o.op = .call { callee := .builtin .append, args := #[s, x], argTypes := #[182, 182] })
    (W : World) (base : Nat) (A : Option Addr) (c : Nat) (ds : List Nat) (hs : a.eval s = .slice A ds.length c) (B : Option Addr) (bc : Nat) (zs : List Nat) (hx : a.eval x = .slice B zs.length bc)
    (hown : OwnPtrs W base A c ds) (hI : PtrsAt W W.heap.size B zs) (hl : ds.length + zs.length ≤ 2147483647) (hbase : base ≤ W.heap.size) (hB : B = none → bc = 0)
    (h : ∀ v w', AppendedP W base A ds.length c (ds ++ zs) v w' → K (a.put o.dst v) w') : o.wp Tryz.prog a W K Q := by
  obtain ⟨v', w', hrun, h2⟩ := run_app_ptrs W base o.type A c ds B bc zs hown hI hl hbase hB
  unfold Oper.wp execOp
  simp only [ho, resolve, invoke, builtin, Sem.run_bind, Sem.run_pure, Result.andThen_ok, List.map_toArray, List.map_cons, List.map_nil, hs, hx, hrun]
  exact h v' w' h2

theorem wpList_app_ptrs {ops : Array Oper} {rest : List Oper} {o : Oper} {a : Act} {Q : Exit → Act → World → Prop} (hgd : o.guard = none) (s x : Operand) (ho : o.op = .call { callee := .builtin .append, args := #[s, x], argTypes := #[182, 182] })
    (W : World) (base : Nat) (A : Option Addr) (c : Nat) (ds : List Nat) (hs : a.eval s = .slice A ds.length c) (B : Option Addr) (bc : Nat) (zs : List Nat) (hx : a.eval x = .slice B zs.length bc)
    (hown : OwnPtrs W base A c ds) (hI : PtrsAt W W.heap.size B zs) (hl : ds.length + zs.length ≤ 2147483647) (hbase : base ≤ W.heap.size) (hB : B = none → bc = 0)
    (h : ∀ v w', AppendedP W base A ds.length c (ds ++ zs) v w' → wpList Tryz.prog ops Q rest (a.put o.dst v) w') : wpList Tryz.prog ops Q (o :: rest) a W :=
  wpList_plain hgd fun _ hK => wp_app_ptrs s x ho W base A c ds hs B bc zs hx hown hI hl hbase hB fun v' w' h2 => hK _ _ (h v' w' h2)

theorem step_app_ptrs {ops : Array Oper} {o : Oper} {a : Act} {K : Act → World → Prop} {Q : Exit → Act → World → Prop} {E : Prop} (hgd : o.guard = none) (s x : Operand) (ho : o.op = .call { callee := .builtin .append, args := #[s, x], argTypes := #[182, 182] })
    (W : World) (base : Nat) (A : Option Addr) (c : Nat) (ds : List Nat) (hs : a.eval s = .slice A ds.length c) (B : Option Addr) (bc : Nat) (zs : List Nat) (hx : a.eval x = .slice B zs.length bc)
    (hown : OwnPtrs W base A c ds) (hI : PtrsAt W W.heap.size B zs) (hl : ds.length + zs.length ≤ 2147483647) (hbase : base ≤ W.heap.size) (hB : B = none → bc = 0)
    (h : ∀ v w', AppendedP W base A ds.length c (ds ++ zs) v w' → K (a.put o.dst v) w') :
    if Region.wanted o (yielded ops a.tmps) = true then Oper.wp Tryz.prog o a W K Q else E := by
  have hw : Region.wanted o (yielded ops a.tmps) = true := by simp [Region.wanted, hgd]
  rw [if_pos hw]
  exact wp_app_ptrs s x ho W base A c ds hs B bc zs hx hown hI hl hbase hB h

/-- One element that was just laid in a block of its own. -/
theorem one_newP (W : World) (z : Nat) : PtrsAt (W.alloc (.cells #[.pointer (some ⟨z, 0, none⟩)] 190)) (W.alloc (.cells #[.pointer (some ⟨z, 0, none⟩)] 190)).heap.size (some ⟨W.heap.size, 0, none⟩) [z] := fun _ => by
  refine ⟨W.heap.size, 0, rfl, by simp, fun k hk => ?_⟩
  have : k = 0 := by simp at hk; omega
  subst this
  have := cell_one_new W (.pointer (some ⟨z, 0, none⟩)) 190 0 (.pointer (some ⟨z, 0, none⟩)) rfl
  rw [Addr.add_lit] at this
  exact this

end Go.Proofs.YtkmebilhbjcfpaaGreat

namespace Go.Proofs.YtkmebilhbjcfpaaGreat
open Go.RowKit
set_option linter.unusedVariables false

def natsZ (l : List Nat) : List Int := l.map Int.ofNat
theorem natsZ_length (l : List Nat) : (natsZ l).length = l.length := List.length_map _
theorem natsZ_nth (l : List Nat) (k : Nat) : nth (natsZ l) k = (l.getD k 0 : Nat) := by
  unfold nth natsZ
  rw [List.getD_eq_getElem?_getD, List.getD_eq_getElem?_getD, List.getElem?_map]
  cases l[k]? <;> rfl

/-- Where the loop over sizes stands. -/
structure SizesAt (w : World) (s0 n : Nat) (A : Option Addr) (c : Nat) (ds : List Nat) (s f : Nat) (w' : World) : Prop where
  own : OwnInts w' w.heap.size A c (natsZ ds)
  below : Below w.heap.size w w'
  rest : ds ++ (placesGo f s n).map (·.2) = sizesOf s0 n
  fuel : n < s + f
  short : ds.length ≤ s

set_option maxHeartbeats 2000000 in
theorem sizes_any (s0 n : Nat) (w : World) (hn : n ≤ 16) (hs0 : s0 ≤ n) :
    Calls Tryz.prog 162 #[.int .i64 (s0 : Int), .int .i64 (n : Int)] w (RetInts w (natsZ (sizesOf s0 n))) := by
  go_enter Tryz.func162, Tryz.ntmps162
  go_wp2
  go_loopw [0, 5] (fun i x w' => ∃ (A : Option Addr) (c : Nat) (ds : List Nat) (s f : Nat), s ≤ n ∧ x = .slice A ds.length c ∧ i = .int .i64 s ∧ SizesAt w s0 n A c ds s f w') (fun i _ _ => n - (intOf i).toNat)
  case atStart =>
    refine ⟨none, 0, [], s0, 17, by omega, rfl, rfl, ?_⟩
    exact ⟨World.ownsRow_nil _ _ _ _, Below.refl _ _, rfl, by omega, by simp⟩
  case round =>
    obtain ⟨A, c, ds, s, f, hs, rfl, rfl, hC⟩ := hrel
    have HC := Lib.hid hC
    clear hC
    by_cases hlt : s < n
    · obtain ⟨f, rfl⟩ : ∃ f', f = f' + 1 := by
        cases f with
        | zero => have := HC.out.fuel; omega
        | succ f => exact ⟨f, rfl⟩
      go_wp2_with fail
      rw [show ((n : Int) - (s : Int)) = ((n - s : Nat) : Int) from by omega]
      refine (size_any _ _ _ (by omega) (by omega) (by omega)).mono ?_
      rintro e w1 ⟨rfl, rfl⟩
      obtain ⟨k, HK⟩ : ∃ k, Hid (sizeAt s (n - s) = k) := ⟨_, rfl⟩
      rw [HK.out]
      have hk1 : 1 ≤ k := by rw [← HK.out]; exact sizeAt_pos _ _
      have hk2 : k ≤ n - s := by rw [← HK.out]; exact sizeAt_le _ _ (by omega)
      have hb0 : w.heap.size ≤ wr.heap.size := HC.out.below.size
      have hdl : ds.length ≤ 16 := by have := HC.out.short; omega
      go_wp2_with (at_builtin; refine wpList_app_ints rfl (.tmp 15) (.tmp 17) rfl _ w.heap.size A c (natsZ ds) (by rw [natsZ_length]; rfl) _ _ [(k : Int)] rfl (HC.out.own.alloc _) (one_new _ _) (by rw [natsZ_length]; simp; omega) (by simp; omega) (by simp) ?_; intro v w3 hA)
      obtain ⟨⟨A', c', rfl, hown⟩, hg, hbel⟩ := hA
      have HO : Hid (OwnInts w3 w.heap.size A' c' (natsZ (ds ++ [k]))) := by
        show OwnInts _ _ _ _ _
        unfold natsZ
        rw [List.map_append]
        exact hown
      have HB := Lib.hid hbel
      have hlen : (natsZ ds ++ [(k : Int)]).length = (ds ++ [k]).length := by rw [List.length_append, List.length_append, natsZ_length]; rfl
      rw [hlen]
      clear hown hg hbel hlen
      go_wp2
      go_roundw
      case rel =>
        refine ⟨A', c', ds ++ [k], s + k, f, by omega, by simp, by go_num, ?_⟩
        have hC := HC.out
        refine ⟨HO.out, ?_, ?_, ?_, ?_⟩
        · exact (hC.below.alloc (by omega) _).trans HB.out
        · rw [← hC.rest, placesGo_step hlt, List.append_assoc]
          show ds ++ ([k] ++ _) = _
          rw [HK.out]
          rfl
        · have := hC.fuel; omega
        · have := hC.short; simp; omega
      case measure => simp [intOf]; omega
    · have HE : Hid (ds = sizesOf s0 n) := by
        show _ = _
        rw [← HC.out.rest, placesGo_stop hlt]
        simp
      go_wp2
      go_ret
      refine ⟨A, c, ?_, ?_, HC.out.below⟩
      · rw [← HE.out, natsZ_length]; rfl
      · rw [← HE.out]; exact HC.out.own

theorem drop_cons {α : Type} {l : List α} {k : Nat} {a : α} {t : List α} (h : l.drop k = a :: t) (z : α) : l.getD k z = a ∧ l.drop (k + 1) = t ∧ k < l.length := by
  have hk : k < l.length := by
    rcases Nat.lt_or_ge k l.length with h1 | h1
    · exact h1
    · rw [List.drop_eq_nil_of_le h1] at h; cases h
  rw [List.drop_eq_getElem_cons hk] at h
  injection h with h1 h2
  exact ⟨by rw [List.getD_eq_getElem?_getD, List.getElem?_eq_getElem hk]; exact h1, h2, hk⟩
theorem sizesOf_getD (s n k : Nat) (h : k < (places s n).length) : (sizesOf s n).getD k 0 = ((places s n).getD k (0, 1)).2 := by
  unfold sizesOf
  rw [List.getD_eq_getElem?_getD, List.getD_eq_getElem?_getD, List.getElem?_map, List.getElem?_eq_getElem h]
  rfl
theorem sizesOf_length (s n : Nat) : (sizesOf s n).length = (places s n).length := List.length_map _

/-- The tree at a place. -/
def TreeOk (w : World) (zs : List Int) (g : Nat) (p : Nat × Nat) : Prop := ∃ d, d ≤ 4 ∧ p.2 = 2 ^ d ∧ TreeAt w d g (segG zs p.1 p.2)
theorem TreeOk.kept {w w' : World} {zs : List Int} {g : Nat} {p : Nat × Nat} (h : TreeOk w zs g p) (hk : Kept w w') : TreeOk w' zs g p := by
  obtain ⟨d, h1, h2, h3⟩ := h
  exact ⟨d, h1, h2, h3.kept hk⟩
/-- The trees at all places. -/
structure TreesOk (w : World) (zs : List Int) (gs : List Nat) (ps : List (Nat × Nat)) : Prop where
  same : gs.length = ps.length
  tree : ∀ k, k < ps.length → TreeOk w zs (gth gs k) (ps.getD k (0, 1))
theorem TreesOk.kept {w w' : World} {zs : List Int} {gs : List Nat} {ps : List (Nat × Nat)} (h : TreesOk w zs gs ps) (hk : Kept w w') : TreesOk w' zs gs ps :=
  ⟨h.same, fun k hk' => (h.tree k hk').kept hk⟩

structure TreesLoop (w1 : World) (zs : List Int) (s0 n : Nat) (A : Option Addr) (c : Nat) (gs : List Nat) (k s f : Nat) (w' : World) : Prop where
  own : OwnPtrs w' w1.heap.size A c gs
  below : Below w1.heap.size w1 w'
  rest : (places s0 n).drop k = placesGo f s n
  fuel : n < s + f
  len : gs.length = k
  trees : ∀ j, j < k → TreeOk w' zs (gth gs j) ((places s0 n).getD j (0, 1))

/-- What treesOf hands back. -/
def RetTrees (w : World) (zs : List Int) (ps : List (Nat × Nat)) (e : Ending) (w' : World) : Prop :=
  ∃ A cap gs, e = .returned (.slice A gs.length cap) ∧ OwnPtrs w' w.heap.size A cap gs ∧ TreesOk w' zs gs ps ∧ Below w.heap.size w w'

theorem gth_snoc (gs : List Nat) (g j : Nat) : gth (gs ++ [g]) j = if j < gs.length then gth gs j else if j = gs.length then g else 0 := by
  unfold gth
  rw [List.getD_eq_getElem?_getD, List.getD_eq_getElem?_getD]
  by_cases h : j < gs.length
  · rw [if_pos h, List.getElem?_append_left h]
  · rw [if_neg h, List.getElem?_append_right (by omega)]
    by_cases e : j = gs.length
    · rw [if_pos e, e, Nat.sub_self]; rfl
    · rw [if_neg e, List.getElem?_eq_none (by simp; omega)]; rfl

/-- An append to a slice of pointers keeps all nodes. -/
theorem Kept.appended {W w' : World} {base : Nat} {A : Option Addr} {n c : Nat} {ds zs : List Nat} {v : Value} (hown : OwnPtrs W base A c ds) (h : AppendedP W base A ds.length c zs v w') : Kept W w' :=
  fun g r s x y hn => Blk.grown hn h.grown (fun e => own_blk_ne hown hn (by decide) e.symm)

theorem places_length_le (s n : Nat) : (places s n).length ≤ 17 := by
  have key : ∀ f s, (placesGo f s n).length ≤ f := by
    intro f
    induction f with
    | zero => intro s; exact Nat.le_refl _
    | succ f ih =>
      intro s
      by_cases h : s < n
      · rw [placesGo_step h, List.length_cons]; have := ih (s + sizeAt s (n - s)); omega
      · rw [placesGo_stop h]; simp
  exact key 17 s

set_option maxHeartbeats 2000000 in
theorem trees_any (zs : List Int) (b o cap s0 : Nat) (w : World) (hI : IntsAt w w.heap.size (some ⟨b, o, none⟩) zs) (h16 : zs.length ≤ 16) (hcap : zs.length ≤ cap) (hmax : cap ≤ maxLen) (hd : Digs zs) (hs0 : s0 ≤ zs.length) :
    Calls Tryz.prog 155 #[.slice (some ⟨b, o, none⟩) zs.length cap, .int .i64 (s0 : Int)] w (RetTrees w zs (places s0 zs.length)) := by
  obtain ⟨n, HN⟩ : ∃ n, Hid (zs.length = n) := ⟨_, rfl⟩
  have HI := Lib.hid hI
  have HD := Lib.hid hd
  rw [HN.out] at h16 hcap hs0 ⊢
  unfold maxLen at hmax
  clear hI hd
  have hpl := places_length_le s0 n
  obtain ⟨m, HM⟩ : ∃ m, Hid ((places s0 n).length = m) := ⟨_, rfl⟩
  rw [HM.out] at hpl
  go_enter Tryz.func155, Tryz.ntmps155
  go_wp2_with fail
  refine (sizes_any s0 n _ h16 hs0).mono ?_
  rintro e w1 ⟨B, c2, rfl, hown, hbel⟩
  have HO := Lib.hid hown
  have HB := Lib.hid hbel
  clear hown hbel
  rw [natsZ_length, sizesOf_length, HM.out]
  go_wp2
  go_loopw [1, 5, 13] (fun st tr ix w' => ∃ (A : Option Addr) (c : Nat) (gs : List Nat) (k s f : Nat), k ≤ m ∧ s ≤ n ∧ st = .int .i64 s ∧ tr = .slice A gs.length c ∧ ix = .int .i64 k ∧ TreesLoop w1 zs s0 n A c gs k s f w') (fun _ _ ix _ => m - (intOf ix).toNat)
  case atStart =>
    refine ⟨none, 0, [], 0, s0, 17, by omega, hs0, rfl, rfl, rfl, ?_⟩
    exact ⟨World.ownsRow_nil _ _ _ _, Below.refl _ _, rfl, by omega, rfl, fun j hj => absurd hj (by omega)⟩
  case round =>
    obtain ⟨A, c, gs, k, s, f, hk, hs, rfl, rfl, rfl, hC⟩ := hrel
    have HC := Lib.hid hC
    clear hC
    by_cases hlt : k < m
    · have hsn : s < n := by
        rcases Nat.lt_or_ge s n with h | h
        · exact h
        · have h1 := HC.out.rest
          rw [placesGo_stop (by omega)] at h1
          have := congrArg List.length h1
          rw [List.length_drop, HM.out] at this
          simp at this
          omega
      obtain ⟨f, rfl⟩ : ∃ f', f = f' + 1 := by
        cases f with
        | zero => have := HC.out.fuel; omega
        | succ f => exact ⟨f, rfl⟩
      obtain ⟨q, HK⟩ : ∃ q, Hid (sizeAt s (n - s) = q) := ⟨_, rfl⟩
      have hk1 : 1 ≤ q := by rw [← HK.out]; exact sizeAt_pos _ _
      have hk2 : q ≤ n - s := by rw [← HK.out]; exact sizeAt_le _ _ (by omega)
      have hst := HC.out.rest
      rw [placesGo_step hsn, HK.out] at hst
      obtain ⟨hg0, hdrop, hkl⟩ := drop_cons hst (0, 1)
      obtain ⟨d, hd4, hdq⟩ := sizeAt_pow s (n - s) (by omega) (by omega)
      rw [HK.out] at hdq
      have HG := Lib.hid hg0
      have HDR := Lib.hid hdrop
      have HDQ := Lib.hid hdq
      have hI2 := (HO.out.ints.below HC.out.below (Nat.le_refl _))
      have hkz : k < (natsZ (sizesOf s0 n)).length := by rw [natsZ_length, sizesOf_length]; exact hkl
      obtain ⟨b2, o2, rfl, hb2, hcell⟩ := hI2 (by omega)
      have hck := hcell k hkz
      rw [natsZ_nth, sizesOf_getD s0 n k hkl, hg0] at hck
      clear hst hg0 hdrop hkl hdq hI2 hkz hcell
      have hi1 : (s : Int) ≤ (s : Int) + (q : Int) := by omega
      have hi2 : (s : Int) + (q : Int) ≤ (cap : Int) := by omega
      have hne : ¬ cap = s := by omega
      have hseg : (segG zs s q).length = q := segG_length zs s q (by rw [HN.out]; omega)
      have C : Hid (Calls Tryz.prog 174 #[.slice (some ⟨b, o + s, none⟩) q (cap - s)] wr (Treed wr d (segG zs s q))) := by
        have hbw : Below w.heap.size w wr := HB.out.trans (HC.out.below.mono HB.out.size)
        have hp := ((HI.out.part s q rfl).below hbw (Nat.le_refl _)).more hbw.size
        have := treeOf_go d (segG zs s q) b (o + s) (cap - s) wr hp (by rw [hseg]; exact HDQ.out) hd4 (by omega) (by unfold maxLen; omega) (HD.out.seg s q)
        rw [hseg] at this
        exact this
      clear hseg
      go_wp2_with fail
      refine C.out.mono ?_
      rintro e w2 ⟨g, rfl, ht, hb⟩
      have HT := Lib.hid ht
      have HB2 := Lib.hid hb
      clear ht hb
      have hb0 : w1.heap.size ≤ wr.heap.size := HC.out.below.size
      have hb1 : wr.heap.size ≤ w2.heap.size := HB2.out.size
      have hgl : gs.length ≤ 17 := by have := HC.out.len; omega
      go_wp2_with (at_builtin; refine wpList_app_ptrs rfl (.tmp 17) (.tmp 25) rfl _ w1.heap.size A c gs rfl _ _ [g] rfl ((HC.out.own.below HB2.out).alloc _) (one_newP _ _) (by simp; omega) (by simp; omega) (by simp) ?_; intro v w3 hA)
      have HA := Lib.hid hA
      obtain ⟨⟨A', c', rfl, hown⟩, hg, hbel⟩ := hA
      have HO3 := Lib.hid hown
      have HB3 := Lib.hid hbel
      clear hown hg hbel
      go_wp2
      go_roundw
      case rel =>
        have hC := HC.out
        have hkept : Kept w2 w3 := (Kept.alloc w2 _).trans (Kept.appended (n := 0) ((hC.own.below HB2.out).alloc _) HA.out)
        refine ⟨A', c', gs ++ [g], k + 1, s + q, f, by omega, by omega, by go_num, by simp, by go_num, ?_⟩
        refine ⟨HO3.out, ?_, ?_, ?_, ?_, ?_⟩
        · exact ((hC.below.trans (HB2.out.mono hb0)).alloc (by omega) _).trans HB3.out
        · exact HDR.out
        · have := hC.fuel; omega
        · rw [List.length_append, hC.len]; rfl
        · intro j hj
          rw [gth_snoc, hC.len]
          by_cases hjk : j < k
          · rw [if_pos hjk]
            exact (hC.trees j hjk).kept ((Kept.of_below HB2.out).trans hkept)
          · have : j = k := by omega
            subst this
            rw [if_neg hjk, if_pos rfl, HG.out]
            exact ⟨d, hd4, HDQ.out, HT.out.kept hkept⟩
      case measure => simp [intOf]; omega
    · have hkm : k = m := by omega
      subst hkm
      go_wp2
      go_ret
      have hC := HC.out
      refine ⟨A, c, gs, rfl, ?_, ⟨by rw [hC.len, HM.out], fun j hj => hC.trees j (by rw [HM.out] at hj; exact hj)⟩, HB.out.trans (hC.below.mono HB.out.size)⟩
      exact hC.own.base_le HB.out.size

end Go.Proofs.YtkmebilhbjcfpaaGreat

namespace Go.Proofs.YtkmebilhbjcfpaaGreat
open Go.RowKit
set_option linter.unusedVariables false

/-- The roots of nodes. -/
structure RootsAt (w : World) (gs : List Nat) (rs : List Int) : Prop where
  same : gs.length = rs.length
  node : ∀ k, k < gs.length → ∃ s x y, Node w (gth gs k) (nth rs k) s x y
theorem RootsAt.kept {w w' : World} {gs : List Nat} {rs : List Int} (h : RootsAt w gs rs) (hk : Kept w w') : RootsAt w' gs rs :=
  ⟨h.same, fun k hk' => by obtain ⟨s, x, y, n⟩ := h.node k hk'; exact ⟨s, x, y, hk _ _ _ _ _ n⟩⟩
theorem coverP_nth (zs : List Int) (ps : List (Nat × Nat)) (k : Nat) (h : k < ps.length) : nth (coverP pairZ 0 zs ps) k = rootG pairZ 0 4 (segG zs (ps.getD k (0, 1)).1 (ps.getD k (0, 1)).2) := by
  unfold nth coverP
  rw [List.getD_eq_getElem?_getD, List.getD_eq_getElem?_getD, List.getElem?_map, List.getElem?_eq_getElem h]
  rfl
theorem TreesOk.roots {w : World} {zs : List Int} {gs : List Nat} {ps : List (Nat × Nat)} (h : TreesOk w zs gs ps) : RootsAt w gs (coverP pairZ 0 zs ps) := by
  refine ⟨by rw [h.same]; unfold coverP; rw [List.length_map], fun k hk => ?_⟩
  rw [h.same] at hk
  obtain ⟨d, _, _, ht⟩ := h.tree k hk
  obtain ⟨x, y, hn⟩ := ht.node
  rw [coverP_nth zs ps k hk]
  exact ⟨_, x, y, hn⟩
/-- An append to a slice of integers keeps all nodes. -/
theorem Kept.appendedI {W w' : World} {base : Nat} {A : Option Addr} {c : Nat} {ds zs : List Int} {v : Value} (hown : OwnInts W base A c ds) (h : Appended W base A ds.length c zs v w') : Kept W w' :=
  fun g r s x y hn => Blk.grown hn h.grown (fun e => own_blk_ne hown hn (by decide) e.symm)
theorem nth_take_snoc (rs : List Int) (k : Nat) (h : k < rs.length) : rs.take (k + 1) = rs.take k ++ [nth rs k] := by
  rw [List.take_succ_eq_append_getElem h, nth, List.getD_eq_getElem?_getD, List.getElem?_eq_getElem h]
  rfl

structure RootsLoop (w : World) (rs : List Int) (A : Option Addr) (c k : Nat) (w' : World) : Prop where
  own : OwnInts w' w.heap.size A c (rs.take k)
  below : Below w.heap.size w w'

set_option maxHeartbeats 2000000 in
theorem roots_any (B : Option Addr) (bc : Nat) (gs : List Nat) (rs : List Int) (w : World) (hP : PtrsAt w w.heap.size B gs) (hm : gs.length ≤ 100) (hR : RootsAt w gs rs) :
    Calls Tryz.prog 164 #[.slice B gs.length bc] w (RetInts w rs) := by
  have HP := Lib.hid hP
  have HR := Lib.hid hR
  obtain ⟨n, HN⟩ : ∃ n, Hid (gs.length = n) := ⟨_, rfl⟩
  have HS : Hid (rs.length = n) := by show _ = _; rw [← hR.same]; exact HN.out
  rw [HN.out] at hm ⊢
  clear hP hR
  go_enter Tryz.func164, Tryz.ntmps164
  go_wp2
  go_loopw [3, 9] (fun x ix w' => ∃ (A : Option Addr) (c k : Nat), k ≤ n ∧ x = .slice A k c ∧ ix = .int .i64 k ∧ RootsLoop w rs A c k w') (fun _ ix _ => n - (intOf ix).toNat)
  case atStart =>
    refine ⟨_, _, 0, by omega, rfl, rfl, ?_⟩
    exact ⟨OwnInts.new w, (Below.refl _ _).alloc (Nat.le_refl _) _⟩
  case round =>
    obtain ⟨A, c, k, hk, rfl, rfl, hC⟩ := hrel
    have HC := Lib.hid hC
    clear hC
    by_cases hlt : k < n
    · have hkg : k < gs.length := by rw [HN.out]; exact hlt
      obtain ⟨b, o, rfl, hb, hcell⟩ := (HP.out.below HC.out.below (Nat.le_refl _)) (by omega)
      have hck := hcell k hkg
      obtain ⟨s, x, y, hnd⟩ := (HR.out.kept (Kept.of_below HC.out.below)).node k hkg
      have hc0 := hnd.c0
      have hb0 : w.heap.size ≤ wr.heap.size := HC.out.below.size
      have HT : Hid ((rs.take k).length = k) := by show _ = _; rw [List.length_take, HS.out]; omega
      have HSN : Hid (rs.take (k + 1) = rs.take k ++ [nth rs k]) := nth_take_snoc rs k (by rw [HS.out]; exact hlt)
      clear hkg hcell hnd
      go_wp2_with (at_builtin; refine wpList_app_ints rfl (.tmp 13) (.tmp 18) rfl _ w.heap.size A c (rs.take k) (by rw [HT.out]; rfl) _ _ [nth rs k] rfl (HC.out.own.alloc _) (one_new _ _) (by rw [HT.out]; simp; omega) (by simp; omega) (by simp) ?_; intro v w3 hA)
      rw [← HSN.out] at hA
      obtain ⟨⟨A', c', rfl, hown⟩, hg, hbel⟩ := hA
      have HO3 := Lib.hid hown
      have HB3 := Lib.hid hbel
      have hlen : (rs.take (k + 1)).length = k + 1 := by rw [List.length_take, HS.out]; omega
      rw [hlen]
      clear hown hg hbel hlen
      go_wp2
      go_roundw
      case rel =>
        exact ⟨A', c', k + 1, by omega, by simp, by go_num, HO3.out, (HC.out.below.alloc (by omega) _).trans HB3.out⟩
      case measure => simp [intOf]; omega
    · have hkn : k = n := by omega
      subst hkn
      have HT : Hid (rs.take k = rs) := by show _ = _; rw [List.take_of_length_le (by rw [HS.out]; omega)]
      go_wp2
      go_ret
      have hC := HC.out
      have ho := hC.own
      rw [HT.out] at ho
      exact ⟨A, c, by rw [HS.out]; rfl, ho, hC.below⟩

set_option maxHeartbeats 2000000 in
theorem peaksD_any (m : Int) (B : Option Addr) (bc : Nat) (gs : List Nat) (rs : List Int) (w : World) (hP : PtrsAt w w.heap.size B gs) (hm : gs.length ≤ 100) (hR : RootsAt w gs rs) (hd : Digs rs) (h0 : 0 ≤ m) (h1 : m < 991) :
    Calls Tryz.prog 154 #[.int .i64 m, .slice B gs.length bc] w fun e w' => e = .returned (.int .i64 (foldZ m rs)) ∧ w = w' := by
  have HP := Lib.hid hP
  have HR := Lib.hid hR
  have HD := Lib.hid hd
  obtain ⟨n, HN⟩ : ∃ n, Hid (gs.length = n) := ⟨_, rfl⟩
  have HS : Hid (rs.length = n) := by show _ = _; rw [← hR.same]; exact HN.out
  rw [HN.out] at hm ⊢
  clear hP hR hd
  go_enter Tryz.func154, Tryz.ntmps154
  go_wp2
  go_loop [5, 11] (fun x ix => ∃ k : Nat, k ≤ n ∧ x = .int .i64 (foldFrom m rs k) ∧ ix = .int .i64 k) (fun _ ix => n - (intOf ix).toNat)
  case atStart => exact ⟨0, Nat.zero_le _, rfl, rfl⟩
  case round =>
    obtain ⟨k, hk, rfl, rfl⟩ := hrel
    obtain ⟨hb0, hb1⟩ := foldFrom_bd m rs k h0 h1 (by rw [HS.out]; exact hk)
    by_cases hlt : k < n
    · have hkg : k < gs.length := by rw [HN.out]; exact hlt
      have hkr : k < rs.length := by rw [HS.out]; exact hlt
      obtain ⟨b, o, rfl, hb, hcell⟩ := HP.out (by omega)
      have hck := hcell k hkg
      obtain ⟨s, x, y, hnd⟩ := HR.out.node k hkg
      have hc0 := hnd.c0
      have HF := Lib.hid (foldFrom_step m rs k hkr)
      obtain ⟨hv0, hv1⟩ := HD.out.at_ k hkr
      clear hkg hcell hnd hkr
      go_wp2_with fail
      refine (with_any _ _ _ (by omega) (by omega) (by omega) (by omega)).mono ?_
      rintro e w' ⟨rfl, rfl⟩
      go_wp2
      go_round
      case rel => exact ⟨k + 1, by omega, by rw [HF.out], by go_num⟩
      case measure => simp [intOf]; omega
    · have HE : Hid (foldFrom m rs k = foldZ m rs) := by show _ = _; unfold foldFrom; rw [List.take_of_length_le (by rw [HS.out]; omega)]
      go_wp2
      go_ret
      exact ⟨ret_int HE.out, rfl⟩

theorem trees_short {w : World} {zs : List Int} {gs : List Nat} {s n : Nat} (h : TreesOk w zs gs (places s n)) : gs.length ≤ 17 := by rw [h.same]; exact places_length_le s n



set_option maxHeartbeats 800000 in
theorem digest_any (zs : List Int) (b o cap : Nat) (w : World) (hI : IntsAt w w.heap.size (some ⟨b, o, none⟩) zs) (hcap : zs.length ≤ cap) (hmax : cap ≤ maxLen) :
    Calls Tryz.prog 120 #[.slice (some ⟨b, o, none⟩) zs.length cap] w fun e w' => e = .returned (.int .i64 (digestOr zs)) ∧ Below w.heap.size w w' := by
  have HI := Lib.hid hI
  have HM := Lib.hid hmax
  have HC := Lib.hid hcap
  clear hI hmax hcap
  cases hv : leavesB zs with
  | true =>
    have HE : Hid (digestOr zs = digestZ zs) := by show _ = _; unfold digestOr; rw [hv]; rfl
    obtain ⟨h16, hd⟩ := leavesB_yes hv
    have HV := Lib.hid hv
    have HD := Lib.hid hd
    clear hv hd
    rw [HE.out]
    go_enter Tryz.func120, Tryz.ntmps120
    go_wp2_with fail
    refine (leaves_any _ _ zs _ HI.out (Nat.le_trans HC.out HM.out)).mono ?_
    rintro e w' ⟨rfl, rfl⟩
    rw [HV.out]
    go_wp2_with fail
    refine (trees_any zs b o cap 0 _ HI.out h16 HC.out HM.out HD.out (by omega)).mono ?_
    rintro e w1 ⟨A, c, gs, rfl, hown, htr, hbel⟩
    have HO := Lib.hid hown
    have HT := Lib.hid htr
    have HB := Lib.hid hbel
    clear hown hbel htr
    go_wp2_with fail
    refine (peaksD_any _ A c gs (coverZ zs 0) _ HO.out.ints (by have := trees_short HT.out; omega) HT.out.roots (coverZ_digs zs 0 HD.out h16) (by omega) (by omega)).mono ?_
    rintro e w' ⟨rfl, rfl⟩
    go_wp2
    go_ret
    exact ⟨rfl, HB.out⟩
  | false =>
    have HE : Hid (digestOr zs = -1) := by show _ = _; unfold digestOr; rw [hv]; rfl
    have HV := Lib.hid hv
    clear hv
    rw [HE.out]
    go_enter Tryz.func120, Tryz.ntmps120
    go_wp2_with fail
    refine (leaves_any _ _ zs _ HI.out (Nat.le_trans HC.out HM.out)).mono ?_
    rintro e w' ⟨rfl, rfl⟩
    rw [HV.out]
    go_wp2
    go_ret
    exact ⟨rfl, Below.refl _ _⟩

end Go.Proofs.YtkmebilhbjcfpaaGreat

namespace Go.Proofs.YtkmebilhbjcfpaaGreat
open Go.RowKit

theorem OwnInts.none0 {w : World} {base : Nat} {A : Option Addr} {cap : Nat} {zs : List Int} (h : OwnInts w base A cap zs) : A = none → cap = 0 := by
  intro hA
  subst hA
  rcases h.2 with ⟨hv, _⟩ | ⟨g, c, cur, hv, _⟩
  · injection hv
  · injection hv with hA _ _; cases hA
theorem peaksOr_yes {zs : List Int} (h : 0 < (peaksOr zs).length) : zs.length ≤ 16 ∧ Digs zs ∧ peaksOr zs = coverZ zs 0 := by
  unfold peaksOr at h ⊢
  by_cases c : leavesB zs = true
  · rw [if_pos c] at h ⊢
    exact ⟨(leavesB_yes c).1, (leavesB_yes c).2, rfl⟩
  · rw [if_neg c] at h; simp at h
theorem peaksOr_of {zs : List Int} (h : zs.length ≤ 16) (hd : Digs zs) : peaksOr zs = coverZ zs 0 := by unfold peaksOr; rw [if_pos (leavesB_of h hd)]
theorem digestOr_of {zs : List Int} (h : zs.length ≤ 16) (hd : Digs zs) : digestOr zs = digestZ zs := by unfold digestOr; rw [if_pos (leavesB_of h hd)]
theorem foldZ_bd (n : Int) (zs : List Int) (h0 : 0 ≤ n) (h1 : n < 991) : 0 ≤ foldZ n zs ∧ foldZ n zs < 991 := by
  have := foldFrom_bd n zs zs.length h0 h1 (Nat.le_refl _)
  unfold foldFrom at this
  rwa [List.take_length] at this
theorem digestOr_cases (zs : List Int) : digestOr zs = -1 ∨ (zs.length ≤ 16 ∧ Digs zs ∧ digestOr zs = digestZ zs ∧ 0 ≤ digestZ zs ∧ digestZ zs < 991) := by
  unfold digestOr
  by_cases c : leavesB zs = true
  · rw [if_pos c]
    obtain ⟨h1, h2⟩ := leavesB_yes c
    obtain ⟨h3, h4⟩ := foldZ_bd zs.length (coverZ zs 0) (by omega) (by omega)
    exact .inr ⟨h1, h2, rfl, h3, h4⟩
  · rw [if_neg c]; exact .inl rfl

def popGo : Nat → Nat → Nat
  | 0, _ => 0
  | f + 1, k => if 0 < k then k % 2 + popGo f (k / 2) else 0
theorem look_pop : allN (fun n => decide ((places 0 n).length = popGo 6 n)) = true := by decide +kernel
theorem pop_peaks (zs : List Int) (h : zs.length ≤ 16) : (coverZ zs 0).length = popGo 6 zs.length := by
  rw [coverG_length, ← of_decide_eq_true (allN_get look_pop h)]; exact List.length_map _
theorem popGo_step {f k : Nat} (h : 0 < k) : popGo (f + 1) k = k % 2 + popGo f (k / 2) := by show (if _ then _ else _) = _; rw [if_pos h]
theorem popGo_stop {f k : Nat} (h : ¬ 0 < k) : popGo f k = 0 := by
  cases f with
  | zero => rfl
  | succ f => show (if _ then _ else _) = _; rw [if_neg h]
theorem popGo_le : ∀ f k, popGo f k ≤ f := by
  intro f
  induction f with
  | zero => intro k; exact Nat.le_refl _
  | succ f ih =>
    intro k
    by_cases h : 0 < k
    · rw [popGo_step h]; have := ih (k / 2); omega
    · rw [popGo_stop h]; omega

theorem look_next : allN (fun n => decide (n % 2 = 1 ∨ n = 16 ∨ coverG tp [] (vars (n + 1)) 0 = coverG tp [] (vars n) 0 ++ [[n + 1]])) = true := by decide +kernel
theorem vars_take (n m : Nat) (h : m ≤ n) : (vars n).take m = vars m := by
  unfold vars; rw [← List.map_take, List.take_range, Nat.min_eq_left h]
theorem peaks_next (zs : List Int) (x : Int) (h : zs.length < 16) (h2 : zs.length % 2 = 0) : coverZ (zs ++ [x]) 0 = coverZ zs 0 ++ [x] := by
  have hl : (zs ++ [x]).length = zs.length + 1 := by simp
  have e1 := coverG_ev 0 0 (zs ++ [x]) (by omega) 0
  have e2 := coverG_takeEv 0 0 (zs ++ [x]) (by omega) zs.length 0
  rw [List.take_left, hl, vars_take _ _ (by omega)] at e2
  rw [hl] at e1
  have hk := of_decide_eq_true (allN_get look_next (n := zs.length) (by omega))
  have hk' : coverG tp [] (vars (zs.length + 1)) 0 = coverG tp [] (vars zs.length) 0 ++ [[zs.length + 1]] := by
    rcases hk with h3 | h3 | h3
    · omega
    · omega
    · exact h3
  unfold coverZ
  rw [e1, e2, hk', List.map_append]
  have : [([zs.length + 1] : List Nat)].map (ev (envOf 0 0 (zs ++ [x]))) = [x] := by
    simp only [List.map_cons, List.map_nil]
    rw [ev_var, envOf_at _ _ _ _ (by omega), List.getD_eq_getElem?_getD, List.getElem?_append_right (Nat.le_refl _)]
    simp
  rw [this]

theorem look_whole : allN (fun n => (List.range 5).all fun k => decide (2 ^ k ≤ n → (places 0 (2 ^ k)).length = 1)) = true := by decide +kernel
theorem peaks_whole (k : Nat) (h : k ≤ 4) : (sizesOf 0 (2 ^ k)).length = 1 := by
  have := allN_get look_whole (n := 16) (by omega)
  rw [List.all_eq_true] at this
  have := of_decide_eq_true (this k (List.mem_range.2 (by omega)))
  unfold sizesOf
  rw [List.length_map]
  exact this (by have := Nat.pow_le_pow_right (n := 2) (by omega) h; omega)
theorem look_two : allN (fun n => decide (n < 2 ∨ ((places 0 n).length = 1 → (n / 2 + n / 2 = n ∧ (coverG tp [] ((vars n).take (n / 2)) 0).length = 1 ∧ (coverG tp [] ((vars n).drop (n / 2)) 0).length = 1 ∧
    coverG tp [] (vars n) 0 = [tp ((coverG tp [] ((vars n).take (n / 2)) 0).headD []) ((coverG tp [] ((vars n).drop (n / 2)) 0).headD [])])))) = true := by decide +kernel
theorem headD_mapev (e : Nat → Int) (h0 : ev e [] = 0) (l : List (List Nat)) : (l.map (ev e)).headD 0 = ev e (l.headD []) := by cases l <;> simp [h0]
theorem peaks_join (zs : List Int) (h : zs.length ≤ 16) (h2 : 2 ≤ zs.length) (h1 : (coverZ zs 0).length = 1) :
    zs.length / 2 + zs.length / 2 = zs.length ∧ (coverZ (zs.take (zs.length / 2)) 0).length = 1 ∧ (coverZ (zs.drop (zs.length / 2)) 0).length = 1 ∧ nth (coverZ zs 0) 0 = pairZ (nth (coverZ (zs.take (zs.length / 2)) 0) 0) (nth (coverZ (zs.drop (zs.length / 2)) 0) 0) := by
  have hk := of_decide_eq_true (allN_get look_two h)
  rcases hk with hk | hk
  · omega
  · rw [coverG_length] at h1
    unfold sizesOf at h1
    rw [List.length_map] at h1
    obtain ⟨ha, hb, hc, hd⟩ := hk h1
    have e1 := coverG_ev 0 0 zs (by omega) 0
    have e2 := coverG_takeEv 0 0 zs (by omega) (zs.length / 2) 0
    have e3 := coverG_dropEv 0 0 zs (by omega) (zs.length / 2) 0
    refine ⟨ha, ?_, ?_, ?_⟩
    · unfold coverZ; rw [e2, List.length_map]; exact hb
    · unfold coverZ; rw [e3, List.length_map]; exact hc
    · unfold coverZ
      rw [← headD_nth, ← headD_nth, ← headD_nth, e1, e2, e3, headD_mapev _ (env0 0 0 zs), headD_mapev _ (env0 0 0 zs), headD_mapev _ (env0 0 0 zs), ← ev_tp, hd]
      rfl
theorem cover_one (zs : List Int) (h : zs.length = 1) : coverZ zs 0 = zs := by
  match zs, h with
  | [a], _ => rfl
theorem cover_two (zs : List Int) (h : zs.length = 2) : coverZ zs 0 = [pairZ (nth zs 0) (nth zs 1)] := by
  match zs, h with
  | [a, b], _ =>
    have h2 : places 0 2 = [(0, 2)] := by decide +kernel
    unfold coverZ coverG
    rw [show [a, b].length = 2 from rfl, h2]
    simp [coverP, segG, rootG, nth]

end Go.Proofs.YtkmebilhbjcfpaaGreat
