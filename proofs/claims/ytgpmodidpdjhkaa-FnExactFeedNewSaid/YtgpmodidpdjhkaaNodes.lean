/- Nodes of trees in memory, and the contracts of knownTree, pairTrees, treeOf: the last makes a complete tree of its leaves. Conditions: the leaves are valid digests, a power of two of them; roots are digests. -/
import Derived.Test.YtgpmodidpdjhkaaWords
import Derived.Test.YtgpmodidpdjhkaaSpecTree
import Derived.Deep.RegionHeld3
import Derived.Deep.AppendLies
import Derived.Laws.Pointers
namespace Go.Proofs.Ytgpmodidpdjhkaa
open Go.RowKit
set_option linter.unusedVariables false

/-- A block that is known whole. -/
def Blk (w : World) (g : Nat) (t : TypeId) (cs : Array Value) : Prop := w.heap[g]? = some (.cells cs t (0, 0))
section
variable {w w' : World} {g : Nat} {t : TypeId} {cs : Array Value}
theorem Blk.lt (h : Blk w g t cs) : g < w.heap.size := by
  rcases Nat.lt_or_ge g w.heap.size with hlt | hge
  · exact hlt
  · unfold Blk at h; rw [Array.getElem?_eq_none hge] at h; cases h
theorem Blk.cell (h : Blk w g t cs) (i : Nat) : w.cell? ⟨g, i, none⟩ = cs[i]? := cell_of_row w g i cs t (0, 0) h
theorem Blk.new (w : World) (t : TypeId) (cs : Array Value) : Blk (w.alloc (.cells cs t)) w.heap.size t cs := heap_alloc_new w _
theorem Blk.drewN (h : Blk w g t cs) (n : Nat) : Blk (w.drewN n) g t cs := h
theorem Blk.alloc (h : Blk w g t cs) (o : Obj) : Blk (w.alloc o) g t cs := (Below.heap_alloc w o g h.lt).trans h
theorem Blk.below {B : Nat} (h : Blk w g t cs) (hb : Below B w w') (hg : g < B) : Blk w' g t cs := (hb.block g hg).trans h
theorem Blk.grown {row : Option Nat} (h : Blk w g t cs) (hb : w.grownBy w' row) (hg : some g ≠ row) : Blk w' g t cs := (hb.block g h.lt hg).trans h
theorem Blk.ne_ {g' : Nat} {t' : TypeId} {cs' : Array Value} (h : Blk w g t cs) (h' : Blk w g' t' cs') (hne : t ≠ t') : g ≠ g' := by
  rintro rfl
  unfold Blk at h h'
  rw [h] at h'
  injection h' with h'
  injection h' with _ ht
  exact hne ht
theorem own_blk_ne {base : Nat} {e : TypeId} {size n : Nat} {v : Value} {xs : List Value} (h : w.ownsRow base e size v n xs) (hg : Blk w g t cs) (hne : e ≠ t) : v.ownBlock ≠ some g := by
  rcases h.2 with ⟨rfl, _⟩ | ⟨g', cap, cur, rfl, _, hh, _⟩
  · simp [Value.ownBlock]
  · intro he
    have : g' = g := by simpa [Value.ownBlock] using he
    subst this
    exact Blk.ne_ (t := e) hh hg hne rfl
end

/-- A node with a root and a number of leaves; its halves are whatever they are. -/
def Node (w : World) (g : Nat) (r s : Int) (x y : Option Addr) : Prop := Blk w g 112 #[.int .i64 r, .int .i64 s, .pointer x, .pointer y]
theorem Node.c0 {w : World} {g : Nat} {r s : Int} {x y : Option Addr} (h : Node w g r s x y) : w.cell? ⟨g, 0, none⟩ = some (.int .i64 r) := Blk.cell h 0
theorem Node.c1 {w : World} {g : Nat} {r s : Int} {x y : Option Addr} (h : Node w g r s x y) : w.cell? ⟨g, 1, none⟩ = some (.int .i64 s) := Blk.cell h 1
theorem Node.c2 {w : World} {g : Nat} {r s : Int} {x y : Option Addr} (h : Node w g r s x y) : w.cell? ⟨g, 2, none⟩ = some (.pointer x) := Blk.cell h 2
theorem Node.c3 {w : World} {g : Nat} {r s : Int} {x y : Option Addr} (h : Node w g r s x y) : w.cell? ⟨g, 3, none⟩ = some (.pointer y) := Blk.cell h 3

/-- All nodes of w are as they were. -/
def Kept (w w' : World) : Prop := ∀ g r s x y, Node w g r s x y → Node w' g r s x y
theorem Kept.refl (w : World) : Kept w w := fun _ _ _ _ _ h => h
theorem Kept.trans {a b c : World} (h : Kept a b) (k : Kept b c) : Kept a c := fun g r s x y n => k g r s x y (h g r s x y n)
theorem Kept.of_below {w w' : World} (h : Below w.heap.size w w') : Kept w w' := fun g r s x y n => Blk.below n h (Blk.lt n)
theorem Kept.drewN (w : World) (n : Nat) : Kept w (w.drewN n) := fun g r s x y k => k
theorem Kept.alloc (w : World) (o : Obj) : Kept w (w.alloc o) := fun g r s x y k => Blk.alloc k o

/-- A complete tree of 2^d leaves, linked through pointers. -/
def TreeAt (w : World) : Nat → Nat → List Int → Prop
  | 0, g, l => l.length = 1 ∧ Node w g (nth l 0) 1 none none
  | d + 1, g, l => l.length = 2 ^ (d + 1) ∧ ∃ x y, Node w g (rootG pairZ 0 4 l) (2 ^ (d + 1) : Nat) (some ⟨x, 0, none⟩) (some ⟨y, 0, none⟩) ∧ TreeAt w d x (l.take (2 ^ d)) ∧ TreeAt w d y (l.drop (2 ^ d))
theorem TreeAt.kept {w w' : World} (hk : Kept w w') : ∀ {d g : Nat} {l : List Int}, TreeAt w d g l → TreeAt w' d g l := by
  intro d
  induction d with
  | zero => intro g l h; exact ⟨h.1, hk _ _ _ _ _ h.2⟩
  | succ d ih =>
    intro g l h
    obtain ⟨hl, x, y, hn, hx, hy⟩ := h
    exact ⟨hl, x, y, hk _ _ _ _ _ hn, ih hx, ih hy⟩
theorem TreeAt.length {w : World} {d g : Nat} {l : List Int} (h : TreeAt w d g l) : l.length = 2 ^ d := by
  cases d with
  | zero => exact h.1
  | succ d => exact h.1
/-- Its node. -/
theorem TreeAt.node {w : World} {d g : Nat} {l : List Int} (h : TreeAt w d g l) : ∃ x y, Node w g (rootG pairZ 0 4 l) (2 ^ d : Nat) x y := by
  cases d with
  | zero => exact ⟨none, none, by have := h.2; rw [← headD_nth, ← rootG_one pairZ 0 4 l h.1] at this; exact this⟩
  | succ d => obtain ⟨_, x, y, hn, _⟩ := h; exact ⟨_, _, hn⟩

set_option maxHeartbeats 400000 in
theorem known_any (r s : Int) (w : World) :
    Calls Try.prog 111 #[.int .i64 r, .int .i64 s] w fun e w' => e = .returned (.pointer (some ⟨w.heap.size, 0, none⟩)) ∧ w' = w.alloc (.cells #[.int .i64 r, .int .i64 s, .pointer none, .pointer none] 112) := by
  go_enter Try.func111, Try.ntmps111
  go_wp2
  go_ret
  exact ⟨rfl, rfl⟩

def Paired (w : World) (p q : Nat) (r s : Int) (e : Ending) (w' : World) : Prop :=
  ∃ g, e = .returned (.pointer (some ⟨g, 0, none⟩)) ∧ Node w' g r s (some ⟨p, 0, none⟩) (some ⟨q, 0, none⟩) ∧ w.heap.size ≤ g ∧ Below w.heap.size w w'

set_option maxRecDepth 100000 in
set_option maxHeartbeats 2000000 in
theorem pairT_any (p q : Nat) (r s r' s' : Int) (x y x' y' : Option Addr) (w : World) (hp : Node w p r s x y) (hq : Node w q r' s' x' y') (h0 : 0 ≤ r) (h1 : r < 991) (h2 : 0 ≤ r') (h3 : r' < 991) (h4 : 0 ≤ s) (h5 : s ≤ 100) (h6 : 0 ≤ s') (h7 : s' ≤ 100) :
    Calls Try.prog 112 #[.pointer (some ⟨p, 0, none⟩), .pointer (some ⟨q, 0, none⟩)] w (Paired w p q (pairZ r r') (s + s')) := by
  have c0 := hp.c0
  have c1 := hp.c1
  have d0 := hq.c0
  have d1 := hq.c1
  have hs : IntKind.i64.wrap (s + s') = s + s' := IntWalk.i64_in _ (by omega)
  go_enter Try.func112, Try.ntmps112
  go_wp2_with fail
  go_region_held3 (fun w' => w'.cell? ⟨p, 0, none⟩ = some (.int .i64 r) ∧ w'.cell? ⟨p, 1, none⟩ = some (.int .i64 s) ∧ w'.cell? ⟨q, 0, none⟩ = some (.int .i64 r') ∧ w'.cell? ⟨q, 1, none⟩ = some (.int .i64 s')) (go_keep)
    (first | (go_at_call 99; refine (with_any _ _ _ (by omega) (by omega) (by omega) (by omega)).mono ?_; rintro e w' ⟨rfl, rfl⟩))
  go_wp2
  go_ret
  exact ⟨w.heap.size, rfl, (Blk.new w _ _), Nat.le_refl _, below_drew ((Below.refl _ _).alloc (Nat.le_refl _) _)⟩

/-- What treeOf hands back. -/
def Treed (w : World) (d : Nat) (l : List Int) (e : Ending) (w' : World) : Prop :=
  ∃ g, e = .returned (.pointer (some ⟨g, 0, none⟩)) ∧ TreeAt w' d g l ∧ Below w.heap.size w w'

set_option maxRecDepth 100000 in
set_option maxHeartbeats 2000000 in
theorem treeOf_go : ∀ (d : Nat) (zs : List Int) (b o cap : Nat) (w : World), IntsAt w w.heap.size (some ⟨b, o, none⟩) zs → zs.length = 2 ^ d → d ≤ 4 → zs.length ≤ cap → cap ≤ maxLen → Digs zs →
    Calls Try.prog 100 #[.slice (some ⟨b, o, none⟩) zs.length cap] w (Treed w d zs) := by
  intro d
  induction d with
  | zero =>
    intro zs b o cap w hI hn1 hd4 hcap hmax hd
    have hc := (hI.lt (by omega)).2 0 (by omega)
    rw [Nat.add_zero] at hc
    have HN : Hid (zs.length = 1) := hn1
    rw [HN.out]
    clear hI hd hn1 hcap
    go_enter Try.func100, Try.ntmps100
    go_wp2_with fail
    refine (known_any _ _ _).mono ?_
    rintro e w' ⟨rfl, rfl⟩
    go_wp2
    go_ret
    exact ⟨w.heap.size, rfl, ⟨HN.out, Blk.new w _ _⟩, (Below.refl _ _).alloc (Nat.le_refl _) _⟩
  | succ d ih =>
    intro zs b o cap w hI hn hd4 hcap hmax hd
    obtain ⟨h, HH⟩ : ∃ h, Hid (2 ^ d = h) := ⟨2 ^ d, Lib.hid rfl⟩
    have hh1 : 1 ≤ h := by rw [← HH.out]; exact Nat.pos_of_ne_zero (by simp)
    have hh8 : h ≤ 8 := by
      rw [← HH.out]
      have : (2 : Nat) ^ d ≤ 2 ^ 3 := Nat.pow_le_pow_right (by omega) (by omega)
      omega
    have hn2 : zs.length = h + h := by rw [hn, Nat.pow_succ, HH.out]; omega
    have hl1 : (zs.take h).length = h := by rw [List.length_take]; omega
    have hl2 : (zs.drop h).length = h := by rw [List.length_drop]; omega
    obtain ⟨r1, HR1⟩ : ∃ r, Hid (rootG pairZ 0 4 (zs.take h) = r) := ⟨_, rfl⟩
    obtain ⟨r2, HR2⟩ : ∃ r, Hid (rootG pairZ 0 4 (zs.drop h) = r) := ⟨_, rfl⟩
    have b1 := rootZ_bd 4 (zs.take h) (hd.take h) (by omega)
    have b2 := rootZ_bd 4 (zs.drop h) (hd.drop h) (by omega)
    rw [HR1.out] at b1
    rw [HR2.out] at b2
    obtain ⟨b10, b11⟩ := b1
    obtain ⟨b20, b21⟩ := b2
    have HE : Hid (rootG pairZ 0 4 zs = pairZ r1 r2) := by
      show _ = _
      rw [rootG_fuel pairZ 0 4 5 zs (by omega) (by omega) (by omega), rootG_step pairZ 0 4 zs (by omega), show zs.length / 2 = h by omega, HR1.out, HR2.out]
    have HI := Lib.hid hI
    have C1 : Hid (∀ W : World, Below w.heap.size w W → Calls Try.prog 100 #[.slice (some ⟨b, o, none⟩) h cap] W (Treed W d (zs.take h))) := fun W hW => by
      have := ih (zs.take h) b o cap W (((hI.first h).below hW (Nat.le_refl _)).more hW.size) (by rw [hl1, HH.out]) (by omega) (by omega) hmax (hd.take h)
      rw [hl1] at this
      exact this
    obtain ⟨n, HL⟩ : ∃ n, Hid (zs.length = n) := ⟨_, rfl⟩
    have hnh : n = h + h := by rw [← HL.out]; exact hn2
    have C2 : Hid (∀ W : World, Below w.heap.size w W → Calls Try.prog 100 #[.slice (some ⟨b, o + h, none⟩) (n - h) (cap - h)] W (Treed W d (zs.drop h))) := fun W hW => by
      have hp := hI.part h zs.length rfl
      rw [List.take_of_length_le (by omega)] at hp
      have := ih (zs.drop h) b (o + h) (cap - h) W ((hp.below hW (Nat.le_refl _)).more hW.size) (by rw [hl2, HH.out]) (by omega) (by omega) (by omega) (hd.drop h)
      rw [hl2] at this
      rw [hnh, Nat.add_sub_cancel]
      exact this
    have HN : Hid (n = h + h) := hnh
    rw [HL.out] at hcap ⊢
    unfold maxLen at hmax
    have hi0 : (0 : Int) ≤ (h : Int) := by omega
    have hi2 : (h : Int) ≤ (cap : Int) := by omega
    have hi3 : (h : Int) ≤ (n : Int) := by omega
    have hi4 : (n : Int) ≤ (cap : Int) := by omega
    have hn16 : n ≤ 16 := by omega
    have hne : ¬ cap = h := by omega
    have h2n : ((n : Int) == 1) = false := by simp; omega
    clear hnh
    clear hI hd hn hn2 ih hl1 hl2
    go_enter Try.func100, Try.ntmps100
    go_wp2_with fail
    rw [show (n : Int) / 2 = (h : Int) from by have := HN.out; omega]
    go_region_held3 (fun _ => True) (trivial)
      (first
        | (go_at_call 100; (with_reducible refine (C1.out _ (by first | exact Below.refl _ _ | exact below_drew (Below.refl _ _))).mono ?_); rintro e w1 ⟨g1, rfl, ht1, hb1⟩; have HT1 := Lib.hid ht1; have HB1 : Hid (Below w.heap.size w w1) := below_drew_l hb1; clear ht1 hb1)
        | (go_at_call 100; (with_reducible refine (C2.out _ HB1.out).mono ?_); rintro e w2 ⟨g2, rfl, ht2, hb2⟩; have HT2 := Lib.hid ht2; have HB2 := Lib.hid hb2; clear ht2 hb2; obtain ⟨x1, y1, hn1⟩ := (HT1.out.kept (Kept.of_below HB2.out)).node; obtain ⟨x2, y2, hn2⟩ := HT2.out.node; have HN1 := Lib.hid hn1; have HN2 := Lib.hid hn2; clear hn1 hn2; rw [HR1.out] at HN1; rw [HR2.out] at HN2)
        | (go_at_call 112; (with_reducible refine (pairT_any g1 g2 _ _ _ _ _ _ _ _ _ HN1.out HN2.out (by omega) (by omega) (by omega) (by omega) (Int.natCast_nonneg _) (by rw [HH.out]; omega) (Int.natCast_nonneg _) (by rw [HH.out]; omega)).mono ?_); rintro e w3 ⟨g3, rfl, hn3, hg3, hb3⟩; have HN3 := Lib.hid hn3; have HB3 := Lib.hid hb3; clear hn3 hb3))
    go_wp2
    go_ret
    refine ⟨g3, rfl, ⟨by rw [HL.out, HN.out, Nat.pow_succ, HH.out]; omega, g1, g2, ?_, ?_, ?_⟩, ?_⟩
    · have := HN3.out
      rw [HE.out]
      rw [show ((2 ^ (d + 1) : Nat) : Int) = ((2 ^ d : Nat) : Int) + ((2 ^ d : Nat) : Int) from by rw [Nat.pow_succ]; omega]
      exact this
    · rw [HH.out]; exact HT1.out.kept ((Kept.of_below HB2.out).trans (Kept.of_below HB3.out))
    · rw [HH.out]; exact HT2.out.kept (Kept.of_below HB3.out)
    · exact (HB1.out.trans (HB2.out.mono HB1.out.size)).trans (HB3.out.mono (Nat.le_trans HB1.out.size HB2.out.size))

end Go.Proofs.Ytgpmodidpdjhkaa
