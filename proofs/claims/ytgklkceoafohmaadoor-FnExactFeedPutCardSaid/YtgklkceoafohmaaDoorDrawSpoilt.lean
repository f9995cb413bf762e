/- Contracts of l91Spoilt and of the draws of a feed: a feed in memory of the call's own; the reader moves on. Conditions: the feed lies in memory and is small; the code's bytes lie in memory. -/
import Derived.Test.YtgklkceoafohmaaDoorFeedDraw
import Derived.Test.YtgklkceoafohmaaDoorBaseA
import Derived.Test.YtgklkceoafohmaaDoorBaseC
namespace Go.Proofs.YtgklkceoafohmaaDoor
open Go.RowKit
set_option linter.unusedVariables false

def FeedSpoilt (w : World) (B g : Nat) (A : Option Addr) (len cap q : Nat) (l0 s0 : Int) (e : Ending) (w' : World) : Prop :=
  ∃ p l d s A1 c1 A2 c2 bs hs q', e = .returned (feedV p l d s A1 (List.length bs) c1 A2 (List.length hs) c2) ∧ OwnFeed w' w.heap.size A1 c1 A2 c2 bs hs ∧ bs.length ≤ 16 ∧ hs.length ≤ 17 ∧ q' ≤ q + 20 ∧ (l = l0 ∧ s = s0) ∧ Rd w' B g A len cap q' ∧ w.grownBy w' (some g)
theorem blk_app_bits {W w4 : World} {base g n : Nat} {cs : Array Value} {A2 : Option Addr} {c2 : Nat} {hs : List Bool} (hk : Blk W g 28 cs) (ho : OwnBools W base A2 c2 hs) (hg : W.grownBy w4 (Value.ownBlock (.slice A2 n c2))) : Blk w4 g 28 cs :=
  hk.grown hg fun e => by
    obtain ⟨o', s', eA⟩ := ownBlock_some e.symm
    rcases ownb_form ho with hn | ⟨y, hy⟩
    · rw [hn] at eA; cases eA
    · have hne := bits_ne_blk ho hk y hy
      rw [hy] at eA; injection eA with eA; injection eA with eA _ _; exact hne eA
theorem grown_drew (w : World) (row : Option Nat) : w.grownBy w.drew row := ⟨rfl, rfl, rfl, Nat.le_refl _, fun _ _ _ => rfl⟩
/-- A number of the feed is written. -/
theorem Fd.num {w : World} {base g : Nat} {p l d s : Int} {A1 A2 : Option Addr} {c1 c2 : Nat} {bs : List ByteArray} {hs : List Bool} (h : Fd w base g p l d s A1 c1 A2 c2 bs hs) (x : Int) : Fd (w.setCell ⟨g, 0, none⟩ (.int .i64 x)) base g x l d s A1 c1 A2 c2 bs hs ∧ Fd (w.setCell ⟨g, 2, none⟩ (.int .i64 x)) base g p l x s A1 c1 A2 c2 bs hs := by
  constructor
  · exact ⟨owns_block h.strs fun y hy => Below.heap_setCell w _ _ y (strs_ne_blk h.strs h.blk y hy), ownb_block h.bits fun y hy => Below.heap_setCell w _ _ y (bits_ne_blk h.bits h.blk y hy), h.blk.setOwn 0 _, h.big⟩
  · exact ⟨owns_block h.strs fun y hy => Below.heap_setCell w _ _ y (strs_ne_blk h.strs h.blk y hy), ownb_block h.bits fun y hy => Below.heap_setCell w _ _ y (bits_ne_blk h.bits h.blk y hy), h.blk.setOwn 2 _, h.big⟩
/-- A text of the row of texts is written. -/
theorem Fd.put {w : World} {base g y : Nat} {p l d s : Int} {A2 : Option Addr} {c1 c2 : Nat} {bs : List ByteArray} {hs : List Bool} (h : Fd w base g p l d s (some ⟨y, 0, none⟩) c1 A2 c2 bs hs) (j : Nat) (x : ByteArray) : Fd (w.setCell ⟨y, j, none⟩ (.string x)) base g p l d s (some ⟨y, 0, none⟩) c1 A2 c2 (bs.set j x) hs := by
  refine ⟨(owns_stored h.strs j x).1, ownb_block h.bits fun z hz => Below.heap_setCell w _ _ z (fun e => rows_part h.strs h.bits y z rfl hz e.symm), ?_, h.big⟩
  rw [List.length_set]
  exact h.blk.setOther (p := ⟨y, j, none⟩) (strs_ne_blk h.strs h.blk y rfl) _
theorem Fit.set {bs : List ByteArray} (h : Fit bs) (j : Nat) {x : ByteArray} (hx : x.size ≤ maxLen) : Fit (bs.set j x) := Fit.of fun y hy => by
  rcases List.mem_or_eq_of_mem_set hy with hy | hy
  · exact h.mem y hy
  · subst hy; exact hx

set_option maxHeartbeats 4000000 in
set_option maxRecDepth 100000 in
theorem drawspoilt_any {B g len cap q : Nat} {A : Option Addr} {w : World} (hR : Rd w B g A len cap q) (hq : q ≤ 80000) (p l d s : Int) (A1 : Option Addr) (c1 : Nat) (A2 : Option Addr) (c2 : Nat) (bs : List ByteArray) (hs : List Bool) (hF : FeedAt w w.heap.size A1 A2 bs hs) (h1 : A1 = none → c1 = 0) (h2 : A2 = none → c2 = 0) (hlb : bs.length ≤ 16) (hlh : hs.length ≤ 16) :
    Calls Tryd.prog 29 #[.pointer (some ⟨g, 0, none⟩), feedV p l d s A1 bs.length c1 A2 hs.length c2] w (FeedSpoilt w B g A len cap q l s) := by
  have HR := Lib.hid hR
  have hgw := hR.lt
  have hgB := hR.big
  have HF := Lib.hid hF
  obtain ⟨W, HW⟩ : ∃ W, Hid ((w.alloc (.cells (feedC p l d s A1 bs.length c1 A2 hs.length c2) 28)).alloc (.cells (feedC 0 0 0 0 none 0 0 none 0 0) 28) = W) := ⟨_, rfl⟩
  have HB : Hid (Below w.heap.size w W) := by rw [← HW.out]; exact ((Below.refl _ w).alloc (Nat.le_refl _) _).alloc (by simp) _
  have hz : w.heap.size + 2 ≤ W.heap.size := by rw [← HW.out]; simp
  have KP : Hid (Blk W w.heap.size 28 (feedC p l d s A1 bs.length c1 A2 hs.length c2)) := by rw [← HW.out]; exact (Blk.new w 28 _).alloc _
  have KR : Hid (Blk W (w.heap.size + 1) 28 (feedC 0 0 0 0 none 0 0 none 0 0)) := by
    rw [← HW.out]
    have h := Blk.new (w.alloc (.cells (feedC p l d s A1 bs.length c1 A2 hs.length c2) 28)) 28 (feedC 0 0 0 0 none 0 0 none 0 0)
    rw [World.size_alloc] at h
    exact h
  have C0 := Lib.hid (copyFeed_any p l d s A1 c1 A2 c2 bs hs W (HF.out.belowS HB.out) h1 h2 (by omega) (by omega))
  have HFIT := Lib.hid hF.fit
  obtain ⟨m, HM⟩ : ∃ m, Hid (bs.length = m) := ⟨_, rfl⟩
  obtain ⟨n, HN⟩ : ∃ n, Hid (hs.length = n) := ⟨_, rfl⟩
  rw [HM.out] at hlb C0 HW KP ⊢
  rw [HN.out] at hlh C0 HW KP ⊢
  clear hR hF h1 h2
  go_enter Tryd.func29, Tryd.ntmps29
  go_wp2_with fail
  rw [HW.out]
  refine C0.out.mono ?_
  rintro e w1 ⟨X1, e1, X2, e2, rfl, ho1, hb1⟩
  rw [HM.out, HN.out]
  have KP1 := Lib.hid (KP.out.below hb1 (by omega))
  have KR1 := Lib.hid (KR.out.below hb1 (by omega))
  have HB1 : Hid (Below w.heap.size w w1) := HB.out.trans (hb1.mono HB.out.size)
  obtain ⟨a0, a1, a2, a3, a4, a5⟩ := feed_cells KP1.out
  have af := blk_frozen KP1.out
  obtain ⟨V, HV⟩ : ∃ V, Hid (((((((w1.setCell ⟨w.heap.size, 0, none⟩ (.int .i64 p)).setCell ⟨w.heap.size, 1, none⟩ (.int .i64 l)).setCell ⟨w.heap.size, 2, none⟩ (.int .i64 d)).setCell ⟨w.heap.size, 3, none⟩ (.int .i64 s)).setCell ⟨w.heap.size, 4, none⟩ (.slice X1 m e1)).setCell ⟨w.heap.size, 5, none⟩ (.slice X2 n e2)) = V) := ⟨_, rfl⟩
  have HBV : Hid (Below w.heap.size w V) := by rw [← HV.out]; exact below_six HB1.out (Nat.le_refl _) _ _ _ _ _ _
  have hne : ∀ i, i ≠ w.heap.size → V.heap[i]? = w1.heap[i]? := fun i hi => by
    rw [← HV.out, Below.heap_setCell _ ⟨w.heap.size, 5, none⟩ _ i hi, Below.heap_setCell _ ⟨w.heap.size, 4, none⟩ _ i hi, Below.heap_setCell _ ⟨w.heap.size, 3, none⟩ _ i hi, Below.heap_setCell _ ⟨w.heap.size, 2, none⟩ _ i hi, Below.heap_setCell _ ⟨w.heap.size, 1, none⟩ _ i hi, Below.heap_setCell _ ⟨w.heap.size, 0, none⟩ _ i hi]
  have KRV : Hid (Blk V (w.heap.size + 1) 28 (feedC 0 0 0 0 none 0 0 none 0 0)) := (hne _ (by omega)).trans KR1.out
  have HDV : Hid (Fd V w.heap.size w.heap.size p l d s X1 e1 X2 e2 bs hs) := by
    refine ⟨(owns_block ho1.strs fun x hx => hne x ?_).base_le (by omega), (ownb_block ho1.bits fun x hx => hne x ?_).base_le (by omega), ?_, Nat.le_refl _⟩
    · have := (owns_lt ho1.strs x hx).1; omega
    · have := (ownb_lt ho1.bits x hx).1; omega
    · rw [← HV.out, HM.out, HN.out]
      exact blk_six KP1.out _ _ _ _ _ _
  have HRV : Hid (Rd V B g A len cap q) := HR.out.then_ HBV.out hgw
  have HGV : Hid (w.grownBy V (some g)) := grown_of_below HBV.out _
  clear ho1 hb1 hne
  go_wp2_with fail
  rw [HV.out]
  clear a0 a1 a2 a3 a4 a5 af
  refine (pick_any 24 HRV.out (by omega) (by omega) (by omega)).mono ?_
  rintro e w2 ⟨x, hx, rfl, hR2, hg2, hz2⟩
  have HD2 := Lib.hid (HDV.out.picked hg2 hgw)
  have HR2 := Lib.hid hR2
  have HG2 := Lib.hid (World.grownBy.trans HGV.out hg2)
  have KR2 := Lib.hid (KRV.out.grown hg2 (fun e => by injection e with e; omega))
  clear hR2 hg2 hz2
  by_cases h0 : x = 0
  · subst h0
    go_wp2_with fail
    refine (drawsec_any HR2.out (by omega)).mono ?_
    rintro e w3 ⟨y, q3, hy1, hy2, hq3, rfl, hR3, hb3, hg3⟩
    have HD3 := Lib.hid (HD2.out.picked hg3 hgw)
    have HR3 := Lib.hid hR3
    have HG3 := Lib.hid (World.grownBy.trans HG2.out hg3)
    have KR3 := Lib.hid (KR2.out.grown hg3 (fun e => by injection e with e; omega))
    clear hR3 hb3 hg3
    have hkD := HD3.out.blk
    rw [HM.out, HN.out] at hkD
    obtain ⟨k0, k1, k2, k3, k4, k5⟩ := feed_cells hkD
    have kf := blk_frozen hkD
    obtain ⟨r0, r1, r2, r3, r4, r5⟩ := feed_cells KR3.out
    have rf := blk_frozen KR3.out
    clear hkD
    obtain ⟨U, HU⟩ : ∃ U, Hid (w3.setCell ⟨w.heap.size, 0, none⟩ (.int .i64 y) = U) := ⟨_, rfl⟩
    have HDU : Hid (Fd U w.heap.size w.heap.size y l d s X1 e1 X2 e2 bs hs) := by rw [← HU.out]; exact (HD3.out.num y).1
    have HBU : Hid (Below w.heap.size w3 U) := by rw [← HU.out]; exact (Below.refl _ _).setCell (p := ⟨w.heap.size, 0, none⟩) (Nat.le_refl _) _
    have KRU : Hid (Blk U (w.heap.size + 1) 28 (feedC 0 0 0 0 none 0 0 none 0 0)) := by rw [← HU.out]; exact KR3.out.setOther (p := ⟨w.heap.size, 0, none⟩) (by show w.heap.size ≠ w.heap.size + 1; omega) _
    have HRU := Lib.hid (HR3.out.then_ HBU.out hgw)
    have HGU := Lib.hid (grown_then HG3.out HBU.out)
    have hlt9 : w.heap.size ≠ w.heap.size + 1 := by omega
    go_wp2
    rw [HU.out]
    obtain ⟨Y, HY⟩ : ∃ Y, Hid (((((((U.setCell ⟨w.heap.size + 1, 0, none⟩ (.int .i64 y)).setCell ⟨w.heap.size + 1, 1, none⟩ (.int .i64 l)).setCell ⟨w.heap.size + 1, 2, none⟩ (.int .i64 d)).setCell ⟨w.heap.size + 1, 3, none⟩ (.int .i64 s)).setCell ⟨w.heap.size + 1, 4, none⟩ (.slice X1 m e1)).setCell ⟨w.heap.size + 1, 5, none⟩ (.slice X2 n e2)) = Y) := ⟨_, rfl⟩
    have HBY : Hid (Below w.heap.size U Y) := by rw [← HY.out]; exact below_six (Below.refl _ _) (by omega) _ _ _ _ _ _
    have KRY : Hid (Blk Y (w.heap.size + 1) 28 (feedC y l d s X1 m e1 X2 n e2)) := by rw [← HY.out]; exact blk_six KRU.out _ _ _ _ _ _
    have hk : ∀ i, i ≠ w.heap.size + 1 → Y.heap[i]? = U.heap[i]? := fun i hi => by
      rw [← HY.out]
      rw [Below.heap_setCell _ ⟨w.heap.size + 1, 5, none⟩ _ i hi, Below.heap_setCell _ ⟨w.heap.size + 1, 4, none⟩ _ i hi, Below.heap_setCell _ ⟨w.heap.size + 1, 3, none⟩ _ i hi, Below.heap_setCell _ ⟨w.heap.size + 1, 2, none⟩ _ i hi, Below.heap_setCell _ ⟨w.heap.size + 1, 1, none⟩ _ i hi, Below.heap_setCell _ ⟨w.heap.size + 1, 0, none⟩ _ i hi]
    have hown : OwnFeed Y w.heap.size X1 e1 X2 e2 (bs) (hs) := ⟨owns_block HDU.out.strs fun y hy => hk y (strs_ne_blk HDU.out.strs KRU.out y hy), ownb_block HDU.out.bits fun y hy => hk y (bits_ne_blk HDU.out.bits KRU.out y hy), HFIT.out⟩
    rw [HY.out]
    clear hk
    obtain ⟨z0, z1, z2, z3, z4, z5⟩ := feed_cells KRY.out
    exact bodyPost_ret (v := feedV y l d s X1 m e1 X2 n e2) (by simp [results, Tryd.results29, go_sem, z0, z1, z2, z3, z4, z5]) rfl ⟨_, _, _, _, _, _, _, _, bs, hs, q3, by rw [HM.out, HN.out], hown, by rw [HM.out]; omega, by rw [HN.out]; omega, by omega, ⟨rfl, rfl⟩, HRU.out.then_ HBY.out hgw, grown_then HGU.out HBY.out⟩
  · have hx0 : ((x : Int) == 0) = false := beq_eq_false_iff_ne.2 (by omega)
    by_cases h1 : x = 1
    · subst h1
      go_wp2_with fail
      refine (drawdig_any HR2.out (by omega)).mono ?_
      rintro e w3 ⟨y, q3, hy1, hy2, hq3, rfl, hR3, hb3, hg3⟩
      have HD3 := Lib.hid (HD2.out.picked hg3 hgw)
      have HR3 := Lib.hid hR3
      have HG3 := Lib.hid (World.grownBy.trans HG2.out hg3)
      have KR3 := Lib.hid (KR2.out.grown hg3 (fun e => by injection e with e; omega))
      clear hR3 hb3 hg3
      have hkD := HD3.out.blk
      rw [HM.out, HN.out] at hkD
      obtain ⟨k0, k1, k2, k3, k4, k5⟩ := feed_cells hkD
      have kf := blk_frozen hkD
      obtain ⟨r0, r1, r2, r3, r4, r5⟩ := feed_cells KR3.out
      have rf := blk_frozen KR3.out
      clear hkD
      obtain ⟨U, HU⟩ : ∃ U, Hid (w3.setCell ⟨w.heap.size, 2, none⟩ (.int .i64 y) = U) := ⟨_, rfl⟩
      have HDU : Hid (Fd U w.heap.size w.heap.size p l y s X1 e1 X2 e2 bs hs) := by rw [← HU.out]; exact (HD3.out.num y).2
      have HBU : Hid (Below w.heap.size w3 U) := by rw [← HU.out]; exact (Below.refl _ _).setCell (p := ⟨w.heap.size, 2, none⟩) (Nat.le_refl _) _
      have KRU : Hid (Blk U (w.heap.size + 1) 28 (feedC 0 0 0 0 none 0 0 none 0 0)) := by rw [← HU.out]; exact KR3.out.setOther (p := ⟨w.heap.size, 2, none⟩) (by show w.heap.size ≠ w.heap.size + 1; omega) _
      have HRU := Lib.hid (HR3.out.then_ HBU.out hgw)
      have HGU := Lib.hid (grown_then HG3.out HBU.out)
      have hlt9 : w.heap.size ≠ w.heap.size + 1 := by omega
      go_wp2
      rw [HU.out]
      obtain ⟨Y, HY⟩ : ∃ Y, Hid (((((((U.setCell ⟨w.heap.size + 1, 0, none⟩ (.int .i64 p)).setCell ⟨w.heap.size + 1, 1, none⟩ (.int .i64 l)).setCell ⟨w.heap.size + 1, 2, none⟩ (.int .i64 y)).setCell ⟨w.heap.size + 1, 3, none⟩ (.int .i64 s)).setCell ⟨w.heap.size + 1, 4, none⟩ (.slice X1 m e1)).setCell ⟨w.heap.size + 1, 5, none⟩ (.slice X2 n e2)) = Y) := ⟨_, rfl⟩
      have HBY : Hid (Below w.heap.size U Y) := by rw [← HY.out]; exact below_six (Below.refl _ _) (by omega) _ _ _ _ _ _
      have KRY : Hid (Blk Y (w.heap.size + 1) 28 (feedC p l y s X1 m e1 X2 n e2)) := by rw [← HY.out]; exact blk_six KRU.out _ _ _ _ _ _
      have hk : ∀ i, i ≠ w.heap.size + 1 → Y.heap[i]? = U.heap[i]? := fun i hi => by
        rw [← HY.out]
        rw [Below.heap_setCell _ ⟨w.heap.size + 1, 5, none⟩ _ i hi, Below.heap_setCell _ ⟨w.heap.size + 1, 4, none⟩ _ i hi, Below.heap_setCell _ ⟨w.heap.size + 1, 3, none⟩ _ i hi, Below.heap_setCell _ ⟨w.heap.size + 1, 2, none⟩ _ i hi, Below.heap_setCell _ ⟨w.heap.size + 1, 1, none⟩ _ i hi, Below.heap_setCell _ ⟨w.heap.size + 1, 0, none⟩ _ i hi]
      have hown : OwnFeed Y w.heap.size X1 e1 X2 e2 (bs) (hs) := ⟨owns_block HDU.out.strs fun y hy => hk y (strs_ne_blk HDU.out.strs KRU.out y hy), ownb_block HDU.out.bits fun y hy => hk y (bits_ne_blk HDU.out.bits KRU.out y hy), HFIT.out⟩
      rw [HY.out]
      clear hk
      obtain ⟨z0, z1, z2, z3, z4, z5⟩ := feed_cells KRY.out
      exact bodyPost_ret (v := feedV p l y s X1 m e1 X2 n e2) (by simp [results, Tryd.results29, go_sem, z0, z1, z2, z3, z4, z5]) rfl ⟨_, _, _, _, _, _, _, _, bs, hs, q3, by rw [HM.out, HN.out], hown, by rw [HM.out]; omega, by rw [HN.out]; omega, by omega, ⟨rfl, rfl⟩, HRU.out.then_ HBY.out hgw, grown_then HGU.out HBY.out⟩
    · have hx1 : ((x : Int) == 1) = false := beq_eq_false_iff_ne.2 (by omega)
      by_cases h2 : x = 2
      · subst h2
        have hkD := HD2.out.blk
        rw [HM.out, HN.out] at hkD
        obtain ⟨k0, k1, k2, k3, k4, k5⟩ := feed_cells hkD
        have kf := blk_frozen hkD
        obtain ⟨r0, r1, r2, r3, r4, r5⟩ := feed_cells KR2.out
        have rf := blk_frozen KR2.out
        clear hkD
        have hwz : w.heap.size ≤ w2.heap.size := HG2.out.size
        have hlt9 : w.heap.size ≠ w.heap.size + 1 := by omega
        go_wp2_with (first
          | (at_builtin
             refine wpList_app_bools rfl (.tmp 23) (.tmp 24) rfl _ w.heap.size X2 e2 hs (by rw [HN.out]; rfl) _ _ [true] rfl (HD2.out.bits.alloc _) (one_newB _ _) (by rw [HN.out]; simp; omega) (by simp; omega) (by simp) ?_
             intro v w6 hA
             obtain ⟨X2', c2', rfl, hk6, hD6, hb6⟩ := HD2.out.bit hwz _ _ hA
             have hkR := blk_app_bits (KR2.out.alloc _) (HD2.out.bits.alloc _) hA.grown
             have KR6 := Lib.hid hkR
             rw [HM.out, HN.out] at hk6
             clear k0 k1 k2 k3 k4 k5 kf r0 r1 r2 r3 r4 r5 rf
             obtain ⟨k0, k1, k2, k3, k4, k5⟩ := feed_cells hk6
             have kf := blk_frozen hk6
             obtain ⟨r0, r1, r2, r3, r4, r5⟩ := feed_cells hkR
             have rf := blk_frozen hkR
             have HD6 := Lib.hid hD6
             have HB6 := Lib.hid hb6
             rw [HN.out] at HD6 HB6
             rw [show hs.length + 1 = n + 1 by rw [HN.out]]
             clear hA hk6 hD6 hb6 hkR))
        obtain ⟨U, HU⟩ : ∃ U, Hid (w6.setCell ⟨w.heap.size, 5, none⟩ (.slice X2' (n + 1) c2') = U) := ⟨_, rfl⟩
        rw [HU.out] at HD6 HB6
        have KRU : Hid (Blk U (w.heap.size + 1) 28 (feedC 0 0 0 0 none 0 0 none 0 0)) := by rw [← HU.out]; exact KR6.out.setOther (p := ⟨w.heap.size, 5, none⟩) (by show w.heap.size ≠ w.heap.size + 1; omega) _
        have HRU := Lib.hid (HR2.out.then_ HB6.out hgw)
        have HGU := Lib.hid (grown_then HG2.out HB6.out)
        have HLN : Hid ((hs ++ [true]).length = n + 1) := by show _ = _; rw [List.length_append, HN.out]; rfl
        rw [HU.out]
        obtain ⟨Y, HY⟩ : ∃ Y, Hid (((((((U.setCell ⟨w.heap.size + 1, 0, none⟩ (.int .i64 p)).setCell ⟨w.heap.size + 1, 1, none⟩ (.int .i64 l)).setCell ⟨w.heap.size + 1, 2, none⟩ (.int .i64 d)).setCell ⟨w.heap.size + 1, 3, none⟩ (.int .i64 s)).setCell ⟨w.heap.size + 1, 4, none⟩ (.slice X1 m e1)).setCell ⟨w.heap.size + 1, 5, none⟩ (.slice X2' (n + 1) c2')) = Y) := ⟨_, rfl⟩
        have HBY : Hid (Below w.heap.size U Y) := by rw [← HY.out]; exact below_six (Below.refl _ _) (by omega) _ _ _ _ _ _
        have KRY : Hid (Blk Y (w.heap.size + 1) 28 (feedC p l d s X1 m e1 X2' (n + 1) c2')) := by rw [← HY.out]; exact blk_six KRU.out _ _ _ _ _ _
        have hk : ∀ i, i ≠ w.heap.size + 1 → Y.heap[i]? = U.heap[i]? := fun i hi => by
          rw [← HY.out]
          rw [Below.heap_setCell _ ⟨w.heap.size + 1, 5, none⟩ _ i hi, Below.heap_setCell _ ⟨w.heap.size + 1, 4, none⟩ _ i hi, Below.heap_setCell _ ⟨w.heap.size + 1, 3, none⟩ _ i hi, Below.heap_setCell _ ⟨w.heap.size + 1, 2, none⟩ _ i hi, Below.heap_setCell _ ⟨w.heap.size + 1, 1, none⟩ _ i hi, Below.heap_setCell _ ⟨w.heap.size + 1, 0, none⟩ _ i hi]
        have hown : OwnFeed Y w.heap.size X1 e1 X2' c2' (bs) (hs ++ [true]) := ⟨owns_block HD6.out.strs fun y hy => hk y (strs_ne_blk HD6.out.strs KRU.out y hy), ownb_block HD6.out.bits fun y hy => hk y (bits_ne_blk HD6.out.bits KRU.out y hy), HFIT.out⟩
        rw [HY.out]
        clear hk
        obtain ⟨z0, z1, z2, z3, z4, z5⟩ := feed_cells KRY.out
        exact bodyPost_ret (v := feedV p l d s X1 m e1 X2' (n + 1) c2') (by simp [results, Tryd.results29, go_sem, z0, z1, z2, z3, z4, z5]) rfl ⟨_, _, _, _, _, _, _, _, bs, hs ++ [true], _, by rw [HM.out, HLN.out], hown, by rw [HM.out]; omega, by rw [HLN.out]; omega, by omega, ⟨rfl, rfl⟩, HRU.out.then_ HBY.out hgw, grown_then HGU.out HBY.out⟩
      · have hx2 : ((x : Int) == 2) = false := beq_eq_false_iff_ne.2 (by omega)
        by_cases h3 : x = 3
        · subst h3
          by_cases hm0 : m = 0
          · subst hm0
            have hkD := HD2.out.blk
            rw [HM.out, HN.out] at hkD
            obtain ⟨k0, k1, k2, k3, k4, k5⟩ := feed_cells hkD
            have kf := blk_frozen hkD
            obtain ⟨r0, r1, r2, r3, r4, r5⟩ := feed_cells KR2.out
            have rf := blk_frozen KR2.out
            clear hkD
            have hlt9 : w.heap.size ≠ w.heap.size + 1 := by omega
            go_wp2
            obtain ⟨Y, HY⟩ : ∃ Y, Hid (((((((w2.setCell ⟨w.heap.size + 1, 0, none⟩ (.int .i64 p)).setCell ⟨w.heap.size + 1, 1, none⟩ (.int .i64 l)).setCell ⟨w.heap.size + 1, 2, none⟩ (.int .i64 d)).setCell ⟨w.heap.size + 1, 3, none⟩ (.int .i64 s)).setCell ⟨w.heap.size + 1, 4, none⟩ (.slice X1 0 e1)).setCell ⟨w.heap.size + 1, 5, none⟩ (.slice X2 n e2)) = Y) := ⟨_, rfl⟩
            have HBY : Hid (Below w.heap.size w2 Y) := by rw [← HY.out]; exact below_six (Below.refl _ _) (by omega) _ _ _ _ _ _
            have KRY : Hid (Blk Y (w.heap.size + 1) 28 (feedC p l d s X1 0 e1 X2 n e2)) := by rw [← HY.out]; exact blk_six KR2.out _ _ _ _ _ _
            have hk : ∀ i, i ≠ w.heap.size + 1 → Y.heap[i]? = w2.heap[i]? := fun i hi => by
              rw [← HY.out]
              rw [Below.heap_setCell _ ⟨w.heap.size + 1, 5, none⟩ _ i hi, Below.heap_setCell _ ⟨w.heap.size + 1, 4, none⟩ _ i hi, Below.heap_setCell _ ⟨w.heap.size + 1, 3, none⟩ _ i hi, Below.heap_setCell _ ⟨w.heap.size + 1, 2, none⟩ _ i hi, Below.heap_setCell _ ⟨w.heap.size + 1, 1, none⟩ _ i hi, Below.heap_setCell _ ⟨w.heap.size + 1, 0, none⟩ _ i hi]
            have hown : OwnFeed Y w.heap.size X1 e1 X2 e2 (bs) (hs) := ⟨owns_block HD2.out.strs fun y hy => hk y (strs_ne_blk HD2.out.strs KR2.out y hy), ownb_block HD2.out.bits fun y hy => hk y (bits_ne_blk HD2.out.bits KR2.out y hy), HFIT.out⟩
            rw [HY.out]
            clear hk
            obtain ⟨z0, z1, z2, z3, z4, z5⟩ := feed_cells KRY.out
            exact bodyPost_ret (v := feedV p l d s X1 0 e1 X2 n e2) (by simp [results, Tryd.results29, go_sem, z0, z1, z2, z3, z4, z5]) rfl ⟨_, _, _, _, _, _, _, _, bs, hs, _, by rw [HM.out, HN.out], hown, by rw [HM.out]; omega, by rw [HN.out]; omega, by omega, ⟨rfl, rfl⟩, HR2.out.then_ HBY.out hgw, grown_then HG2.out HBY.out⟩
          · have hmi : (0 : Int) < (m : Int) := by omega
            have hmd : decide (0 < m) = true := by simp; omega
            obtain ⟨y, hX⟩ : ∃ y, X1 = some ⟨y, 0, none⟩ := by
              rcases owns_form HD2.out.strs with hn | h
              · exfalso
                obtain ⟨b, o, e, _⟩ := HD2.out.strs.ints (by rw [HM.out]; omega)
                rw [hn] at e; cases e
              · exact h
            subst hX
            have HKD : Hid (Blk w2 w.heap.size 28 (feedC p l d s (some ⟨y, 0, none⟩) m e1 X2 n e2)) := by have h := HD2.out.blk; rw [HM.out, HN.out] at h; exact h
            obtain ⟨k0, k1, k2, k3, k4, k5⟩ := feed_cells HKD.out
            have hlt9 : w.heap.size ≠ w.heap.size + 1 := by omega
            go_wp2_with fail
            refine wp_region_held_drew (S := (fun w' => w'.cell? ⟨w.heap.size, 0, none⟩ = some (.int .i64 p) ∧ w'.cell? ⟨w.heap.size, 1, none⟩ = some (.int .i64 l) ∧ w'.cell? ⟨w.heap.size, 2, none⟩ = some (.int .i64 d) ∧ w'.cell? ⟨w.heap.size, 3, none⟩ = some (.int .i64 s) ∧ w'.cell? ⟨w.heap.size, 4, none⟩ = some (.slice (some ⟨y, 0, none⟩) m e1) ∧ w'.cell? ⟨w.heap.size, 5, none⟩ = some (.slice X2 n e2))) (by kernel_rfl) (feed_cells HKD.out) (fun hHeld => ?_)
            refine wpAnyH_take (i := 0) (v := ?zv1) rfl (by kernel_rfl) (by kernel_rfl) (by kernel_rfl) (fun _ _ _ h => h) (Or.inl ⟨by kernel_rfl, ?zy1⟩) (by assumption) ?zr1
            case zy1 => (intro w hSw; (try dsimp only at hSw); go_simp; try with_reducible rfl)
            change wpAnyH _ _ _ _ _ _ _ (Act.put _ (some 33) _) _
            simp only [Act.put, List.setIfInBounds_toArray, List.set_cons_zero, List.set_cons_succ]
            refine wpAnyH_take (i := 1) (v := ?zv2) rfl (by kernel_rfl) (by kernel_rfl) (by kernel_rfl) (fun _ _ _ h => h) (Or.inl ⟨by kernel_rfl, ?zy2⟩) (by assumption) ?zr2
            case zy2 => (intro w hSw; (try dsimp only at hSw); go_simp; try with_reducible rfl)
            change wpAnyH _ _ _ _ _ _ _ (Act.put _ (some 34) _) _
            simp only [Act.put, List.setIfInBounds_toArray, List.set_cons_zero, List.set_cons_succ]
            refine wpAnyH_take (i := 2) (v := ?zv3) rfl (by kernel_rfl) (by kernel_rfl) (by kernel_rfl) (fun _ _ _ h => h) (Or.inl ⟨by kernel_rfl, ?zy3⟩) (by assumption) ?zr3
            case zy3 => (intro w hSw; (try dsimp only at hSw); go_simp; try with_reducible rfl)
            change wpAnyH _ _ _ _ _ _ _ (Act.put _ (some 35) _) _
            simp only [Act.put, List.setIfInBounds_toArray, List.set_cons_zero, List.set_cons_succ]
            refine wpAnyH_take (i := 3) (v := ?zv4) rfl (by kernel_rfl) (by kernel_rfl) (by kernel_rfl) (fun _ _ _ h => h) (Or.inl ⟨by kernel_rfl, ?zy4⟩) (by assumption) ?zr4
            case zy4 => (intro w hSw; (try dsimp only at hSw); go_simp; try with_reducible rfl)
            change wpAnyH _ _ _ _ _ _ _ (Act.put _ (some 36) _) _
            simp only [Act.put, List.setIfInBounds_toArray, List.set_cons_zero, List.set_cons_succ]
            refine wpAnyH_take (i := 4) (v := ?zv5) rfl (by kernel_rfl) (by kernel_rfl) (by kernel_rfl) (fun _ _ _ h => h) (Or.inl ⟨by kernel_rfl, ?zy5⟩) (by assumption) ?zr5
            case zy5 => (intro w hSw; (try dsimp only at hSw); go_simp; try with_reducible rfl)
            change wpAnyH _ _ _ _ _ _ _ (Act.put _ (some 37) _) _
            simp only [Act.put, List.setIfInBounds_toArray, List.set_cons_zero, List.set_cons_succ]
            refine wpAnyH_take (i := 5) (v := ?zv6) rfl (by kernel_rfl) (by kernel_rfl) (by kernel_rfl) (fun _ _ _ h => h) (Or.inl ⟨by kernel_rfl, ?zy6⟩) (by assumption) ?zr6
            case zy6 => (intro w hSw; (try dsimp only at hSw); go_simp; try with_reducible rfl)
            change wpAnyH _ _ _ _ _ _ _ (Act.put _ (some 38) _) _
            simp only [Act.put, List.setIfInBounds_toArray, List.set_cons_zero, List.set_cons_succ]
            refine wpAnyH_take (i := 7) (v := ?zv7) rfl (by kernel_rfl) (by kernel_rfl) (by kernel_rfl) (fun _ _ _ h => h) (Or.inl ⟨by kernel_rfl, ?zy7⟩) (by assumption) ?zr7
            case zy7 => (intro w hSw; (try dsimp only at hSw); go_simp; try with_reducible rfl)
            change wpAnyH _ _ _ _ _ _ _ (Act.put _ (some 40) _) _
            simp only [Act.put, List.setIfInBounds_toArray, List.set_cons_zero, List.set_cons_succ]
            refine wpAnyH_ready (rs := [6]) (by kernel_rfl) (by simp) (AllReadyH.cons rfl (fun K hK => ?_) AllReadyH.nil)
            go_simp
            go_at_call 31
            refine (pick_any (m : Int) HR2.out.drew (by omega) (by omega) (by omega)).mono ?_
            rintro e w3 ⟨j, hj, rfl, hR3, hg3, hz3⟩
            have HD3 := Lib.hid (HD2.out.drew.picked hg3 hgw)
            have HR3 := Lib.hid hR3
            have HG3 : Hid (w.grownBy w3 (some g)) := World.grownBy.trans (World.grownBy.trans HG2.out (grown_drew w2 _)) hg3
            have KR3 := Lib.hid (Blk.grown (show Blk w2.drew _ _ _ from KR2.out) hg3 (fun e => by injection e with e; omega))
            have HKD3 : Hid (Blk w3 w.heap.size 28 (feedC p l d s (some ⟨y, 0, none⟩) m e1 X2 n e2)) := by have h := HD3.out.blk; rw [HM.out, HN.out] at h; exact h
            clear hR3 hg3 hz3
            refine hK.out _ _ (feed_cells HKD3.out) (fun hHeld => ?_)
            clear hK K
            (try simp only [Act.put, List.setIfInBounds_toArray, List.set_cons_zero, List.set_cons_succ])
            refine wpAnyH_ready (rs := [8]) (by kernel_rfl) (by simp) (AllReadyH.cons rfl (fun K hK => ?_) AllReadyH.nil)
            go_simp
            go_at_call 32
            refine (drawtext_any HR3.out (by omega)).mono ?_
            rintro e w4 ⟨t, q4, ht, hq4, rfl, hR4, hg4⟩
            have HD4 := Lib.hid (HD3.out.picked hg4 hgw)
            have HR4 := Lib.hid hR4
            have HG4 : Hid (w.grownBy w4 (some g)) := World.grownBy.trans HG3.out hg4
            have KR4 := Lib.hid (KR3.out.grown hg4 (fun e => by injection e with e; omega))
            have HKD4 : Hid (Blk w4 w.heap.size 28 (feedC p l d s (some ⟨y, 0, none⟩) m e1 X2 n e2)) := by have h := HD4.out.blk; rw [HM.out, HN.out] at h; exact h
            have hj0 : (0 : Int) ≤ (j : Int) := by omega
            obtain ⟨hcx, hfx⟩ := owns_cell HD4.out.strs j (by rw [HM.out]; omega)
            have hyne : y ≠ w.heap.size := strs_ne_blk HD4.out.strs HD4.out.blk y rfl
            clear hR4 hg4
            refine hK.out _ _ (feed_cells HKD4.out) (fun hHeld => ?_)
            clear hK K
            (try simp only [Act.put, List.setIfInBounds_toArray, List.set_cons_zero, List.set_cons_succ])
            refine wpAnyH_take (i := 9) (v := ?zv8) rfl (by kernel_rfl) (by kernel_rfl) (by kernel_rfl) (fun _ _ _ h => h) (Or.inl ⟨by kernel_rfl, ?zy8⟩) (by assumption) ?zr8
            case zy8 => (intro w hSw; (try dsimp only at hSw); go_simp; try with_reducible rfl)
            change wpAnyH _ _ _ _ _ _ _ (Act.put _ (some 42) _) _
            simp only [Act.put, List.setIfInBounds_toArray, List.set_cons_zero, List.set_cons_succ]
            refine wpAnyH_ready (rs := [10]) (by kernel_rfl) (by simp) (AllReadyH.cons rfl (fun K hK => ?_) AllReadyH.nil)
            go_simp
            have HDU0 := Lib.hid (HD4.out.put j t)
            have HKU0 : Hid (Blk (w4.setCell ⟨y, j, none⟩ (.string t)) w.heap.size 28 (feedC p l d s (some ⟨y, 0, none⟩) m e1 X2 n e2)) := by have h := HDU0.out.blk; rw [List.length_set, HM.out, HN.out] at h; exact h
            refine hK.out _ _ (feed_cells HKU0.out) (fun hHeld => ?_)
            clear hK K
            (try simp only [Act.put])
            refine wpAnyH_done (by kernel_rfl) ?_ _
            obtain ⟨U, HU⟩ : ∃ U, Hid (w4.setCell ⟨y, j, none⟩ (.string t) = U) := ⟨_, rfl⟩
            rw [HU.out] at HDU0 HKU0 ⊢
            have HBU : Hid (Below w.heap.size w4 U) := by rw [← HU.out]; exact (Below.refl _ _).setCell (p := ⟨y, j, none⟩) ((owns_lt HD4.out.strs y rfl).1) _
            have KRU : Hid (Blk U (w.heap.size + 1) 28 (feedC 0 0 0 0 none 0 0 none 0 0)) := by rw [← HU.out]; exact KR4.out.setOther (p := ⟨y, j, none⟩) (strs_ne_blk HD4.out.strs KR4.out y rfl) _
            have HRU := Lib.hid (HR4.out.then_ HBU.out hgw)
            have HGU := Lib.hid (grown_then HG4.out HBU.out)
            have HLB : Hid ((bs.set j t).length = m) := by show _ = _; rw [List.length_set]; exact HM.out
            have HFS : Hid (Fit (bs.set j t)) := HFIT.out.set j (by unfold maxLen; omega)
            clear k0 k1 k2 k3 k4 k5 hHeld hcx hfx
            obtain ⟨k0, k1, k2, k3, k4, k5⟩ := feed_cells HKU0.out
            obtain ⟨r0, r1, r2, r3, r4, r5⟩ := feed_cells KRU.out
            have rf := blk_frozen KRU.out
            go_wp2
            obtain ⟨Y, HY⟩ : ∃ Y, Hid (((((((U.setCell ⟨w.heap.size + 1, 0, none⟩ (.int .i64 p)).setCell ⟨w.heap.size + 1, 1, none⟩ (.int .i64 l)).setCell ⟨w.heap.size + 1, 2, none⟩ (.int .i64 d)).setCell ⟨w.heap.size + 1, 3, none⟩ (.int .i64 s)).setCell ⟨w.heap.size + 1, 4, none⟩ (.slice (some ⟨y, 0, none⟩) m e1)).setCell ⟨w.heap.size + 1, 5, none⟩ (.slice X2 n e2)) = Y) := ⟨_, rfl⟩
            have HBY : Hid (Below w.heap.size U Y) := by rw [← HY.out]; exact below_six (Below.refl _ _) (by omega) _ _ _ _ _ _
            have KRY : Hid (Blk Y (w.heap.size + 1) 28 (feedC p l d s (some ⟨y, 0, none⟩) m e1 X2 n e2)) := by rw [← HY.out]; exact blk_six KRU.out _ _ _ _ _ _
            have hk : ∀ i, i ≠ w.heap.size + 1 → Y.heap[i]? = U.heap[i]? := fun i hi => by
              rw [← HY.out]
              rw [Below.heap_setCell _ ⟨w.heap.size + 1, 5, none⟩ _ i hi, Below.heap_setCell _ ⟨w.heap.size + 1, 4, none⟩ _ i hi, Below.heap_setCell _ ⟨w.heap.size + 1, 3, none⟩ _ i hi, Below.heap_setCell _ ⟨w.heap.size + 1, 2, none⟩ _ i hi, Below.heap_setCell _ ⟨w.heap.size + 1, 1, none⟩ _ i hi, Below.heap_setCell _ ⟨w.heap.size + 1, 0, none⟩ _ i hi]
            have hown : OwnFeed Y w.heap.size (some ⟨y, 0, none⟩) e1 X2 e2 (bs.set j t) (hs) := ⟨owns_block HDU0.out.strs fun y hy => hk y (strs_ne_blk HDU0.out.strs KRU.out y hy), ownb_block HDU0.out.bits fun y hy => hk y (bits_ne_blk HDU0.out.bits KRU.out y hy), HFS.out⟩
            rw [HY.out]
            clear hk
            obtain ⟨z0, z1, z2, z3, z4, z5⟩ := feed_cells KRY.out
            exact bodyPost_ret (v := feedV p l d s (some ⟨y, 0, none⟩) m e1 X2 n e2) (by simp [results, Tryd.results29, go_sem, z0, z1, z2, z3, z4, z5]) rfl ⟨_, _, _, _, _, _, _, _, bs.set j t, hs, _, by rw [HLB.out, HN.out], hown, by rw [HLB.out]; omega, by rw [HN.out]; omega, by omega, ⟨rfl, rfl⟩, HRU.out.then_ HBY.out hgw, grown_then HGU.out HBY.out⟩
        · have hx3 : ((x : Int) == 3) = false := beq_eq_false_iff_ne.2 (by omega)
          have hkD := HD2.out.blk
          rw [HM.out, HN.out] at hkD
          obtain ⟨k0, k1, k2, k3, k4, k5⟩ := feed_cells hkD
          have kf := blk_frozen hkD
          obtain ⟨r0, r1, r2, r3, r4, r5⟩ := feed_cells KR2.out
          have rf := blk_frozen KR2.out
          clear hkD
          have hlt9 : w.heap.size ≠ w.heap.size + 1 := by omega
          go_wp2
          obtain ⟨Y, HY⟩ : ∃ Y, Hid (((((((w2.setCell ⟨w.heap.size + 1, 0, none⟩ (.int .i64 p)).setCell ⟨w.heap.size + 1, 1, none⟩ (.int .i64 l)).setCell ⟨w.heap.size + 1, 2, none⟩ (.int .i64 d)).setCell ⟨w.heap.size + 1, 3, none⟩ (.int .i64 s)).setCell ⟨w.heap.size + 1, 4, none⟩ (.slice X1 m e1)).setCell ⟨w.heap.size + 1, 5, none⟩ (.slice X2 n e2)) = Y) := ⟨_, rfl⟩
          have HBY : Hid (Below w.heap.size w2 Y) := by rw [← HY.out]; exact below_six (Below.refl _ _) (by omega) _ _ _ _ _ _
          have KRY : Hid (Blk Y (w.heap.size + 1) 28 (feedC p l d s X1 m e1 X2 n e2)) := by rw [← HY.out]; exact blk_six KR2.out _ _ _ _ _ _
          have hk : ∀ i, i ≠ w.heap.size + 1 → Y.heap[i]? = w2.heap[i]? := fun i hi => by
            rw [← HY.out]
            rw [Below.heap_setCell _ ⟨w.heap.size + 1, 5, none⟩ _ i hi, Below.heap_setCell _ ⟨w.heap.size + 1, 4, none⟩ _ i hi, Below.heap_setCell _ ⟨w.heap.size + 1, 3, none⟩ _ i hi, Below.heap_setCell _ ⟨w.heap.size + 1, 2, none⟩ _ i hi, Below.heap_setCell _ ⟨w.heap.size + 1, 1, none⟩ _ i hi, Below.heap_setCell _ ⟨w.heap.size + 1, 0, none⟩ _ i hi]
          have hown : OwnFeed Y w.heap.size X1 e1 X2 e2 (bs) (hs) := ⟨owns_block HD2.out.strs fun y hy => hk y (strs_ne_blk HD2.out.strs KR2.out y hy), ownb_block HD2.out.bits fun y hy => hk y (bits_ne_blk HD2.out.bits KR2.out y hy), HFIT.out⟩
          rw [HY.out]
          clear hk
          obtain ⟨z0, z1, z2, z3, z4, z5⟩ := feed_cells KRY.out
          exact bodyPost_ret (v := feedV p l d s X1 m e1 X2 n e2) (by simp [results, Tryd.results29, go_sem, z0, z1, z2, z3, z4, z5]) rfl ⟨_, _, _, _, _, _, _, _, bs, hs, _, by rw [HM.out, HN.out], hown, by rw [HM.out]; omega, by rw [HN.out]; omega, by omega, ⟨rfl, rfl⟩, HR2.out.then_ HBY.out hgw, grown_then HG2.out HBY.out⟩

end Go.Proofs.YtgklkceoafohmaaDoor
