/- Contracts of RareOrder and RarePick. Conditions: the bits lie in memory. -/
import Derived.Test.YtgjnhfciphiciaaRare
namespace Go.Proofs.Ytgjnhfciphiciaa
open Go.RowKit
set_option linter.unusedVariables false

theorem OwnInts.block {w w' : World} {base cap : Nat} {A : Option Addr} {zs : List Int} (h : OwnInts w base A cap zs) (hk : ∀ g, A = some ⟨g, 0, none⟩ → w'.heap[g]? = w.heap[g]?) : OwnInts w' base A cap zs := by
  refine ⟨h.1, ?_⟩
  rcases h.2 with h0 | ⟨g, c, cur, hv, hg, hgb, hr⟩
  · exact .inl h0
  · have hA : A = some ⟨g, 0, none⟩ := by injection hv
    exact .inr ⟨g, c, cur, hv, hg, (hk g hA).trans hgb, hr⟩
/-- A row of integers is no block of a heap. -/
theorem ints_apart {w : World} {base base' g b cap c : Nat} {X : Option Addr} {zs : List Int} {xs : List Nat} (h : OwnInts w base X c zs) (k : Hp w base' g (some ⟨b, 0, none⟩) cap xs) : ∀ y, X = some ⟨y, 0, none⟩ → y < w.heap.size ∧ y ≠ g ∧ y ≠ b := by
  intro y hX
  subst hX
  have hlt := (World.ownsRow.lt h y rfl).2
  rcases h.2 with ⟨hv, _⟩ | ⟨y', c', cur, hv, hg, hgb, hr⟩
  · injection hv with hA _ _; cases hA
  · have hy : y = y' := by injection hv with hA _ _; injection hA with hA; injection hA
    subst hy
    refine ⟨hlt, fun e => ?_, fun e => ?_⟩
    · subst e
      have := k.blk
      unfold Blk at this
      rw [hgb] at this
      injection this with this
      injection this with _ ht
      exact absurd ht (by decide)
    · subst e
      rcases k.own.2 with ⟨hv2, _⟩ | ⟨b', c2, cur2, hv2, _, hgb2, _⟩
      · injection hv2 with hA _ _; cases hA
      · have hb : y = b' := by injection hv2 with hA _ _; injection hA with hA; injection hA
        subst hb
        rw [hgb] at hgb2
        injection hgb2 with this
        injection this with _ ht
        exact absurd ht (by decide)
/-- An integer is appended to a row beside a heap. -/
theorem heap_beside {w w' : World} {base base' g b cap c n : Nat} {X : Option Addr} {zs : List Int} {xs : List Nat} (k : Hp w base' g (some ⟨b, 0, none⟩) cap xs) (h : OwnInts w base X c zs) (hg : w.grownBy w' (Value.ownBlock (.slice X n c))) : Hp w' base' g (some ⟨b, 0, none⟩) cap xs := by
  have hne : ∀ i, i = g ∨ i = b → some i ≠ Value.ownBlock (.slice X n c) := by
    intro i hi e
    rcases h.2 with ⟨hv, _⟩ | ⟨y, c', cur, hv, _, _, _⟩
    · have hX : X = none := by injection hv
      rw [hX] at e; cases e
    · have hX : X = some ⟨y, 0, none⟩ := by injection hv
      rw [hX] at e
      have hiy : i = y := by simpa [Value.ownBlock] using e
      have := ints_apart h k y hX
      rcases hi with hi | hi <;> omega
  refine ⟨k.blk.grown hg (hne g (.inl rfl)), k.own.block fun y hy => ?_, k.le⟩
  have hb : b = y := by injection hy with hy; injection hy
  subst hb
  exact hg.block b (k.own.lies b rfl).2 (hne b (.inr rfl))

theorem orderN_map (ps : List (List Bool)) (mine : List Bool) : orderN ps mine = (if okP ps = true ∧ mine.length ≤ 16 then orderK ps mine else []).map (· % 16) := by
  unfold orderN; split <;> rfl
theorem drained' {ps : List (List Bool)} {mine : List Bool} {qs : List Nat} (hp : qs.Perm (if okP ps = true ∧ mine.length ≤ 16 then wantK ps mine 16 else [])) (hs : qs.Pairwise (· ≤ ·)) : qs.map blkZ = natZ (orderN ps mine) := by
  rw [orderN_map, ← blk_order]
  split at hp
  · rename_i h
    rw [if_pos h, drained hp hs]
  · rename_i h
    rw [if_neg h, List.Perm.eq_nil hp]

set_option maxHeartbeats 3000000 in
set_option maxRecDepth 100000 in
theorem order_any (A : Option Addr) (cap : Nat) (hs : List PH) (M : Option Addr) (mc : Nat) (mine : List Bool) (w : World) (hP : PAt w w.heap.size A hs) (hM : BoolsAt w w.heap.size M mine) :
    Calls Try.prog 18 #[.slice A hs.length cap, .slice M mine.length mc] w (RetInts w (natZ (orderN (pz hs) mine))) := by
  have C1 := Lib.hid (wanted_any A cap hs M mc mine _ (hP.allocS (.cells #[] 3)) (hM.allocS (.cells #[] 3)))
  obtain ⟨W, HW⟩ : ∃ W, Hid (W = w.alloc (.cells #[] 3)) := ⟨_, rfl⟩
  have HO0 : Hid (OwnInts W w.heap.size (some ⟨w.heap.size, 0, none⟩) 0 []) := by rw [HW.out]; exact OwnInts.new w
  have HB0 : Hid (Below w.heap.size w W) := by rw [HW.out]; exact (Below.refl _ w).alloc (Nat.le_refl _) _
  rw [← HW.out] at C1
  obtain ⟨n, HN⟩ : ∃ n, Hid (hs.length = n) := ⟨_, rfl⟩
  obtain ⟨m, HM⟩ : ∃ m, Hid (mine.length = m) := ⟨_, rfl⟩
  rw [HN.out, HM.out] at C1 ⊢
  clear hP hM
  go_enter Try.func18, Try.ntmps18
  go_upto_region 2 with fail
  rw [← HW.out]
  go_wp2_with fail
  refine C1.out.mono ?_
  rintro e w1 ⟨g, b, ca, xs0, rfl, hH, hO, hl, hp, hb1⟩
  have hz1 : W.heap.size ≤ w1.heap.size := hb1.size
  have HH := Lib.hid hH
  have HO := Lib.hid hO
  have HPP := Lib.hid hp
  have HI := Lib.hid (HO0.out.below hb1)
  have HB1 : Hid (Below w.heap.size w w1) := HB0.out.trans (hb1.mono HB0.out.size)
  clear hH hO hp hb1 C1
  go_wp2
  go_loopg [5] 16 (fun gg p wr => ∃ (X : Option Addr) (c L : Nat) (qs xs : List Nat), p = .slice X L c ∧ xs.length ≤ gg ∧ L + xs.length ≤ 16 ∧ Hid ((qs.map blkZ).length = L) ∧ Hid (OwnInts wr w.heap.size X c (qs.map blkZ)) ∧ Hid (Hp wr W.heap.size g (some ⟨b, 0, none⟩) ca xs) ∧ Hid (heapOK xs xs.length) ∧ Hid (qs.Pairwise (· ≤ ·)) ∧ Hid (∀ q ∈ qs, ∀ y ∈ xs, q ≤ y) ∧ Hid ((qs ++ xs).Perm (if okP (pz hs) = true ∧ mine.length ≤ 16 then wantK (pz hs) mine 16 else [])) ∧ Hid (Below w.heap.size w wr))
  case atStart => exact ⟨_, 0, 0, [], xs0, rfl, hl, by omega, rfl, HI, HH, HO, List.Pairwise.nil, (fun q hq => by cases hq), HPP, HB1⟩
  case round =>
    obtain ⟨X, c, L, qs, xs, rfl, hgg, hL, HLQ, HX, HH2, HO2, HS, HLE, HP2, HB⟩ := hrel
    obtain ⟨l, HL⟩ : ∃ l, Hid (xs.length = l) := ⟨_, rfl⟩
    rw [HL.out] at hgg hL
    have hc := HH2.out.cell
    rw [HL.out] at hc
    by_cases h0 : l = 0
    · subst h0
      have hxs : xs = [] := List.eq_nil_of_length_eq_zero HL.out
      subst hxs
      have HE : Hid (qs.map blkZ = natZ (orderN (pz hs) mine)) := drained' (by have := HP2.out; rw [List.append_nil] at this; exact this) HS.out
      rw [HE.out] at HX HLQ
      go_wp2_with fail
      refine (hlen_any _ _ _ _).mono ?_
      rintro e w3 ⟨rfl, rfl⟩
      go_wp2
      go_ret
      exact ⟨X, c, by rw [HLQ.out]; rfl, HX.out, HB.out⟩
    · obtain ⟨l1, rfl⟩ : ∃ l1, l = l1 + 1 := ⟨l - 1, by omega⟩
      have hpos : (0 : Int) < ((l1 + 1 : Nat) : Int) := by omega
      have C2 := Lib.hid (rarest_any W.heap.size g b ca l1 xs wr HH2.out HL.out (by omega) (by have := HO2.out; rw [HL.out] at this; exact this))
      go_wp2_with fail
      refine (hlen_any _ _ _ _).mono ?_
      rintro e w3 ⟨rfl, rfl⟩
      go_wp2_with fail
      refine C2.out.mono ?_
      rintro e w4 ⟨x, rfl, ys, h1, h2, h3, h4, h5⟩
      have hz4 : w3.heap.size ≤ w4.heap.size := h5.1.size
      have HX4 : Hid (OwnInts w4 w.heap.size X c (qs.map blkZ)) := HX.out.block fun y hy => by
        have := ints_apart HX.out HH2.out y hy
        exact h5.2 y this.1 this.2.1 this.2.2
      have HH4 := Lib.hid h1
      have hst := drain_step HS.out HLE.out h2 h4
      have hly : ys.length = l1 := by have := h2.length_eq; rw [List.length_cons, HL.out] at this; omega
      have HLY := Lib.hid hly
      have HO4 : Hid (heapOK ys ys.length) := by show heapOK _ _; rw [hly]; exact h3
      have HS4 := Lib.hid hst.1
      have HLE4 := Lib.hid hst.2.1
      have HP4 : Hid ((qs ++ [x] ++ ys).Perm _) := hst.2.2.trans HP2.out
      have HB4 : Hid (Below w.heap.size w w4) := HB.out.trans (h5.below (by have := HH2.out.le; have := HB0.out.size; omega) (by have := (HH2.out.own.lies b rfl).1; have := HB0.out.size; omega) (by have := HB.out.size; omega))
      have hzw : w.heap.size ≤ w4.heap.size := HB4.out.size
      clear h1 h2 h3 h4 h5 hst hly C2
      go_wp2_with (at_builtin; refine wpList_app_ints rfl (.tmp 16) (.tmp 19) rfl _ w.heap.size X c (qs.map blkZ) (by rw [HLQ.out]; rfl) _ _ [blkZ x] rfl (HX4.out.alloc _) (one_new _ _) (by rw [HLQ.out]; simp; omega) (by simp; omega) (by simp) ?_; intro v w5 hA)
      obtain ⟨⟨X', c', rfl, hO5⟩, hg5, hb5⟩ := hA
      have HH5 : Hid (Hp w5 W.heap.size g (some ⟨b, 0, none⟩) ca ys) := heap_beside (n := (qs.map blkZ).length) (⟨HH4.out.blk.alloc _, HH4.out.own.alloc _, HH4.out.le⟩) (HX4.out.alloc _) hg5
      have hm : (qs ++ [x]).map blkZ = qs.map blkZ ++ [blkZ x] := by rw [List.map_append]; rfl
      rw [← hm] at hO5
      have HX5 := Lib.hid hO5
      have HL5 : Hid (((qs ++ [x]).map blkZ).length = L + 1) := by show _ = _; rw [hm, List.length_append, HLQ.out]; rfl
      have HB5 : Hid (Below w.heap.size w w5) := (HB4.out.alloc hzw _).trans hb5
      have hlen : (qs.map blkZ ++ [blkZ x]).length = L + 1 := by rw [List.length_append, HLQ.out]; rfl
      rw [hlen]
      clear hO5 hg5 hb5 hm hlen
      go_wp2
      go_roundg l1
      case measure => omega
      case rel => exact ⟨X', c', L + 1, qs ++ [x], ys, rfl, by rw [HLY.out]; exact Nat.le_refl _, by rw [HLY.out]; omega, HL5, HX5, HH5, HO4, HS4, HLE4, HP4, HB5⟩

end Go.Proofs.Ytgjnhfciphiciaa
