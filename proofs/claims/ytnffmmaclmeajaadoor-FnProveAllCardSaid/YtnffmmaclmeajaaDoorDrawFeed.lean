/- Contracts of DrawFeedValid and DrawFeedProve: a small feed in memory of the call's own, and a number; nothing that was there is changed. Condition: the code's bytes lie in memory. -/
import Derived.Test.YtnffmmaclmeajaaDoorDrawSpoilt
namespace Go.Proofs.YtnffmmaclmeajaaDoor
open Go.RowKit
set_option linter.unusedVariables false

theorem in_alloc {w : World} {A : Option Addr} {len cap : Nat} (h : In w A len cap) (o : Obj) : In (w.alloc o) A len cap :=
  ⟨fun k hk => by
    obtain ⟨b, o', z, hA, hb, hc, h0, h1⟩ := h.bytes k hk
    exact ⟨b, o', z, hA, by simp; omega, (World.cell?_of_block (a := ⟨b, o' + k, none⟩) (Below.heap_alloc w o b hb)).trans hc, h0, h1⟩, h.le, h.most⟩
def FeedDrawn (w : World) (e : Ending) (w' : World) : Prop :=
  ∃ p l d s A1 c1 A2 c2 bs hs, e = .returned (feedV p l d s A1 (List.length bs) c1 A2 (List.length hs) c2) ∧ OwnFeed w' w.heap.size A1 c1 A2 c2 bs hs ∧ bs.length ≤ 16 ∧ hs.length ≤ 17 ∧ Below w.heap.size w w'
def FeedNumDrawn (w : World) (e : Ending) (w' : World) : Prop :=
  ∃ p l d s A1 c1 A2 c2 bs hs i, e = .returned (.tuple #[feedV p l d s A1 (List.length bs) c1 A2 (List.length hs) c2, .int .i64 i]) ∧ OwnFeed w' w.heap.size A1 c1 A2 c2 bs hs ∧ bs.length ≤ 16 ∧ hs.length ≤ 17 ∧ -100 ≤ i ∧ i ≤ 100 ∧ Below w.heap.size w w'
/-- Six cells of a block are written that is no row's. -/
theorem own_six {W : World} {base g : Nat} {A1 A2 : Option Addr} {c1 c2 : Nat} {bs : List ByteArray} {hs : List Bool} {cs : Array Value} (h : OwnFeed W base A1 c1 A2 c2 bs hs) (hk : Blk W g 28 cs) (v0 v1 v2 v3 v4 v5 : Value) : OwnFeed ((((((W.setCell ⟨g, 0, none⟩ v0).setCell ⟨g, 1, none⟩ v1).setCell ⟨g, 2, none⟩ v2).setCell ⟨g, 3, none⟩ v3).setCell ⟨g, 4, none⟩ v4).setCell ⟨g, 5, none⟩ v5) base A1 c1 A2 c2 bs hs := by
  have hn : ∀ i, i ≠ g → ((((((W.setCell ⟨g, 0, none⟩ v0).setCell ⟨g, 1, none⟩ v1).setCell ⟨g, 2, none⟩ v2).setCell ⟨g, 3, none⟩ v3).setCell ⟨g, 4, none⟩ v4).setCell ⟨g, 5, none⟩ v5).heap[i]? = W.heap[i]? := fun i hi => by
    rw [Below.heap_setCell _ ⟨g, 5, none⟩ _ i hi, Below.heap_setCell _ ⟨g, 4, none⟩ _ i hi, Below.heap_setCell _ ⟨g, 3, none⟩ _ i hi, Below.heap_setCell _ ⟨g, 2, none⟩ _ i hi, Below.heap_setCell _ ⟨g, 1, none⟩ _ i hi, Below.heap_setCell _ ⟨g, 0, none⟩ _ i hi]
  exact ⟨owns_block h.strs fun x hx => hn x (strs_ne_blk h.strs hk x hx), ownb_block h.bits fun x hx => hn x (bits_ne_blk h.bits hk x hx), h.fit⟩



set_option maxHeartbeats 4000000 in
set_option maxRecDepth 100000 in
theorem drawFeedProve_any (A : Option Addr) (len cap : Nat) (w : World) (hI : In w A len cap) :
    Calls Tryd.prog 20 #[.slice A len cap] w (FeedNumDrawn w) := by
  have HI := Lib.hid hI
  clear hI
  go_enter Tryd.func20, Tryd.ntmps20
  go_wp2_with fail
  refine (open_any A len cap _ (in_alloc HI.out _)).mono ?_
  rintro e w1 ⟨len', cap', rfl, hR1, hb1⟩
  simp only [World.size_alloc] at hR1 hb1 ⊢
  have HR1 := Lib.hid hR1
  have KR1 : Hid (Blk w1 w.heap.size 28 (feedC 0 0 0 0 none 0 0 none 0 0)) := (Blk.new w 28 (feedC 0 0 0 0 none 0 0 none 0 0)).below hb1 (by omega)
  have HB1 : Hid (Below w.heap.size w w1) := ((Below.refl _ w).alloc (Nat.le_refl _) _).trans (hb1.mono (by omega))
  have hg1 : w.heap.size + 1 < w1.heap.size := hR1.lt
  clear hR1 hb1
  go_wp2_with fail
  refine (drawgood_any HR1.out (by omega)).mono ?_
  rintro e w2 ⟨sec, q2, hs0, hs1, hq2, rfl, hR2, hg2⟩
  have HR2 := Lib.hid hR2
  have KR2 := Lib.hid (KR1.out.grown hg2 (fun e => by injection e with e; omega))
  have HB2 : Hid (Below w.heap.size w w2) := HB1.out.grown hg2 (by omega) (fun k hk => by injection hk with hk; omega)
  have hz2 : w1.heap.size ≤ w2.heap.size := hg2.size
  clear hR2 hg2
  go_wp2_with fail
  refine (drawblocks_any HR2.out (by omega)).mono ?_
  rintro e w3 ⟨X, c, b0, q3, rfl, hl0, hq3, hS3⟩
  have HS3 := Lib.hid hS3
  have KR3 := Lib.hid (KR2.out.grown hS3.grown (fun e => by injection e with e; omega))
  have HB3 : Hid (Below w.heap.size w w3) := HB2.out.grown hS3.grown (by omega) (fun k hk => by injection hk with hk; omega)
  have hz3 : w2.heap.size ≤ w3.heap.size := hS3.grown.size
  clear hS3
  obtain ⟨nb, HNB⟩ : ∃ nb, Hid (b0.length = nb) := ⟨_, rfl⟩
  have CW := Lib.hid (drawwhole_any (w := w3) sec X c b0 (by omega) (by omega) HS3.out.own.ints HS3.out.short hl0)
  rw [HNB.out] at hl0 CW ⊢
  go_wp2_with fail
  refine CW.out.mono ?_
  rintro e w4 ⟨p, l, d, s, Z1, c1, Z2, c2, b1, h1, rfl, ho4, hb1, hh1, hb4⟩
  have KR4 := Lib.hid (KR3.out.below hb4 KR3.out.lt)
  have HB4 : Hid (Below w.heap.size w w4) := HB3.out.trans (hb4.mono HB3.out.size)
  have HS4 : Hid (OwnStrs w4 w2.heap.size X c b0) := HS3.out.own.below hb4
  have hz4 : w3.heap.size ≤ w4.heap.size := hb4.size
  have HR4 := Lib.hid (HS3.out.rd.then_ hb4 HS3.out.rd.lt)
  have HO4 := Lib.hid ho4
  clear hb4 ho4
  obtain ⟨V, HV⟩ : ∃ V, Hid (w4.alloc (.cells (feedC p l d s Z1 b1.length c1 Z2 h1.length c2) 28) = V) := ⟨_, rfl⟩
  have KRV : Hid (Blk V w.heap.size 28 (feedC 0 0 0 0 none 0 0 none 0 0)) := by rw [← HV.out]; exact KR4.out.alloc _
  have HBV : Hid (Below w.heap.size w V) := by rw [← HV.out]; exact HB4.out.alloc HB4.out.size _
  have HSV : Hid (OwnStrs V w2.heap.size X c b0) := by rw [← HV.out]; exact HS4.out.alloc _
  have HOV : Hid (OwnFeed V w3.heap.size Z1 c1 Z2 c2 b1 h1) := by rw [← HV.out]; exact HO4.out.alloc _
  have KFV : Hid (Blk V w4.heap.size 28 (feedC p l d s Z1 b1.length c1 Z2 h1.length c2)) := by rw [← HV.out]; exact Blk.new w4 _ _
  have HRV : Hid (Rd V (w.heap.size + 1) (w.heap.size + 1) A len' cap' q3) := by rw [← HV.out]; exact HR4.out.alloc _
  have hzV : w4.heap.size < V.heap.size := KFV.out.lt
  go_wp2_with fail
  rw [HV.out]
  refine (pick_any 4 HRV.out (by omega) (by omega) (by omega)).mono ?_
  rintro e w5 ⟨x, hx, rfl, hR5, hg5, hz5⟩
  have KR5 := Lib.hid (KRV.out.grown hg5 (fun e => by injection e with e; omega))
  have KF5 := Lib.hid (KFV.out.grown hg5 (fun e => by injection e with e; omega))
  have HB5 : Hid (Below w.heap.size w w5) := HBV.out.grown hg5 (by omega) (fun k hk => by injection hk with hk; omega)
  have HS5 : Hid (OwnStrs w5 w2.heap.size X c b0) := owns_keep HSV.out hg5 (fun k hk => by injection hk with hk; omega)
  have HO5 : Hid (OwnFeed w5 w3.heap.size Z1 c1 Z2 c2 b1 h1) := ⟨owns_keep HOV.out.strs hg5 (fun k hk => by injection hk with hk; omega), ownbs_keep HOV.out.bits hg5 (fun k hk => by injection hk with hk; omega), HOV.out.fit⟩
  have HR5 := Lib.hid hR5
  have hz6 : V.heap.size ≤ w5.heap.size := hg5.size
  clear hR5 hg5 hz5
  by_cases h0 : x = 0
  · subst h0
    have CR := Lib.hid (drawreader_any HR5.out (by omega) sec X c b0 (by omega) (by omega) HS5.out.ints HS3.out.short (by rw [HNB.out]; exact hl0))
    rw [HNB.out] at CR
    go_wp2_with fail
    refine CR.out.mono ?_
    clear hb1 hh1
    rintro e w6 ⟨p', l', d', s', Z1', c1', Z2', c2', b1', h1', q6, rfl, ho6, hb1, hh1, hq6, -, hR6, hg6⟩
    have KR6 := Lib.hid (KR5.out.grown hg6 (fun e => by injection e with e; omega))
    have KF6 := Lib.hid (KF5.out.grown hg6 (fun e => by injection e with e; omega))
    have HB6 : Hid (Below w.heap.size w w6) := HB5.out.grown hg6 (by omega) (fun k hk => by injection hk with hk; omega)
    have hz7 : w5.heap.size ≤ w6.heap.size := hg6.size
    have HO6 := Lib.hid ho6
    have HR6 := Lib.hid hR6
    obtain ⟨k0, k1, k2, k3, k4, k5⟩ := feed_cells KF6.out
    have kf := blk_frozen KF6.out
    clear ho6 hR6 hg6
    obtain ⟨w7, HW7⟩ : ∃ w7, Hid (((((((w6.setCell ⟨w4.heap.size, 0, none⟩ (.int .i64 p')).setCell ⟨w4.heap.size, 1, none⟩ (.int .i64 l')).setCell ⟨w4.heap.size, 2, none⟩ (.int .i64 d')).setCell ⟨w4.heap.size, 3, none⟩ (.int .i64 s')).setCell ⟨w4.heap.size, 4, none⟩ (.slice Z1' b1'.length c1')).setCell ⟨w4.heap.size, 5, none⟩ (.slice Z2' h1'.length c2')) = w7) := ⟨_, rfl⟩
    have HB7 : Hid (Below w.heap.size w w7) := by rw [← HW7.out]; exact below_six HB6.out (by omega) _ _ _ _ _ _
    have hne7 : ∀ i, i ≠ w4.heap.size → w7.heap[i]? = w6.heap[i]? := fun i hi => by
      rw [← HW7.out]
      rw [Below.heap_setCell _ ⟨w4.heap.size, 5, none⟩ _ i hi, Below.heap_setCell _ ⟨w4.heap.size, 4, none⟩ _ i hi, Below.heap_setCell _ ⟨w4.heap.size, 3, none⟩ _ i hi, Below.heap_setCell _ ⟨w4.heap.size, 2, none⟩ _ i hi, Below.heap_setCell _ ⟨w4.heap.size, 1, none⟩ _ i hi, Below.heap_setCell _ ⟨w4.heap.size, 0, none⟩ _ i hi]
    have KR7 : Hid (Blk w7 w.heap.size 28 (feedC 0 0 0 0 none 0 0 none 0 0)) := (hne7 _ (by omega)).trans KR6.out
    have KF7 : Hid (Blk w7 w4.heap.size 28 (feedC p' l' d' s' Z1' b1'.length c1' Z2' h1'.length c2')) := by rw [← HW7.out]; exact blk_six KF6.out _ _ _ _ _ _
    have HO7 : Hid (OwnFeed w7 w5.heap.size Z1' c1' Z2' c2' b1' h1') := by rw [← HW7.out]; exact own_six HO6.out KF6.out _ _ _ _ _ _
    have HR7 : Hid (Rd w7 (w.heap.size + 1) (w.heap.size + 1) A len' cap' q6) := HR6.out.keep (fun i hi => hne7 i (by omega)) (hne7 _ (by omega))
    have hz9 : w6.heap.size ≤ w7.heap.size := by rw [← HW7.out]; simp
    clear hne7
    go_wp2_with fail
    rw [HW7.out]
    clear k0 k1 k2 k3 k4 k5 kf
    refine (drawspoilt_any HR7.out (by omega) p' l' d' s' Z1' c1' Z2' c2' b1' h1' HO7.out.at_ (own_nil_cap HO7.out).1 (own_nil_cap HO7.out).2 hb1 hh1).mono ?_
    rintro e w8 ⟨fp, fl, fd, fs, Y1, e1, Y2, e2, bs, hs, q8, rfl, ho8, hlb, hlh, hq8, -, hR8, hg8⟩
    have HO8 := Lib.hid ho8
    have HR8 := Lib.hid hR8
    have KR8 := Lib.hid (KR7.out.grown hg8 (fun e => by injection e with e; omega))
    have HB8 : Hid (Below w.heap.size w w8) := HB7.out.grown hg8 (by omega) (fun k hk => by injection hk with hk; omega)
    have hz8 : w7.heap.size ≤ w8.heap.size := hg8.size
    clear ho8 hR8 hg8
    by_cases hn1 : (nb : Int) < 1
    · go_wp2_with fail
      refine (pick_any 1 HR8.out (by omega) (by omega) (by omega)).mono ?_
      rintro e w9 ⟨x9, hx9, rfl, hR9, hg9, hz9⟩
      have HR9 := Lib.hid hR9
      have KR9 := Lib.hid (KR8.out.grown hg9 (fun e => by injection e with e; omega))
      have HB9 : Hid (Below w.heap.size w w9) := HB8.out.grown hg9 (by omega) (fun k hk => by injection hk with hk; omega)
      have HO9 : Hid (OwnFeed w9 w7.heap.size Y1 e1 Y2 e2 bs hs) := ⟨owns_keep HO8.out.strs hg9 (fun k hk => by injection hk with hk; omega), ownbs_keep HO8.out.bits hg9 (fun k hk => by injection hk with hk; omega), HO8.out.fit⟩
      have hy9 : w8.heap.size ≤ w9.heap.size := hg9.size
      clear hR9 hg9 hz9
      go_wp2_with fail
      refine (pick_any 14 HR9.out (by omega) (by omega) (by omega)).mono ?_
      rintro e w10 ⟨y, hy, rfl, hR10, hg10, hz10⟩
      have HR10 := Lib.hid hR10
      have KR10 := Lib.hid (KR9.out.grown hg10 (fun e => by injection e with e; omega))
      have HB10 : Hid (Below w.heap.size w w10) := HB9.out.grown hg10 (by omega) (fun k hk => by injection hk with hk; omega)
      have HO10 : Hid (OwnFeed w10 w7.heap.size Y1 e1 Y2 e2 bs hs) := ⟨owns_keep HO9.out.strs hg10 (fun k hk => by injection hk with hk; omega), ownbs_keep HO9.out.bits hg10 (fun k hk => by injection hk with hk; omega), HO9.out.fit⟩
      have hy10 : w9.heap.size ≤ w10.heap.size := hg10.size
      clear hR10 hg10 hz10
      go_wp2_with fail
      refine (pick_any 5 HR10.out (by omega) (by omega) (by omega)).mono ?_
      rintro e w11 ⟨z, hz, rfl, hR11, hg11, hz11⟩
      have KR11 := Lib.hid (KR10.out.grown hg11 (fun e => by injection e with e; omega))
      have HB11 : Hid (Below w.heap.size w w11) := HB10.out.grown hg11 (by omega) (fun k hk => by injection hk with hk; omega)
      have HO11 : Hid (OwnFeed w11 w7.heap.size Y1 e1 Y2 e2 bs hs) := ⟨owns_keep HO10.out.strs hg11 (fun k hk => by injection hk with hk; omega), ownbs_keep HO10.out.bits hg11 (fun k hk => by injection hk with hk; omega), HO10.out.fit⟩
      have hy11 : w10.heap.size ≤ w11.heap.size := hg11.size
      obtain ⟨r0, r1, r2, r3, r4, r5⟩ := feed_cells KR11.out
      have rf := blk_frozen KR11.out
      clear hR11 hg11 hz11
      by_cases hy13 : y < 13
      · rw [show (y : Int) / 13 = 0 from by omega]
        go_wp2
        obtain ⟨Y, HY⟩ : ∃ Y, Hid (((((((w11.setCell ⟨w.heap.size, 0, none⟩ (.int .i64 fp)).setCell ⟨w.heap.size, 1, none⟩ (.int .i64 fl)).setCell ⟨w.heap.size, 2, none⟩ (.int .i64 fd)).setCell ⟨w.heap.size, 3, none⟩ (.int .i64 fs)).setCell ⟨w.heap.size, 4, none⟩ (.slice Y1 bs.length e1)).setCell ⟨w.heap.size, 5, none⟩ (.slice Y2 hs.length e2)) = Y) := ⟨_, rfl⟩
        have HBY : Hid (Below w.heap.size w Y) := by rw [← HY.out]; exact below_six HB11.out (Nat.le_refl _) _ _ _ _ _ _
        have KRY : Hid (Blk Y w.heap.size 28 (feedC fp fl fd fs Y1 bs.length e1 Y2 hs.length e2)) := by rw [← HY.out]; exact blk_six KR11.out _ _ _ _ _ _
        have hown : OwnFeed Y w.heap.size Y1 e1 Y2 e2 bs hs := by rw [← HY.out]; exact (own_six HO11.out KR11.out _ _ _ _ _ _).base_le (by omega)
        rw [HY.out]
        obtain ⟨z0, z1, z2, z3, z4, z5⟩ := feed_cells KRY.out
        exact bodyPost_ret (v := .tuple #[feedV fp fl fd fs Y1 bs.length e1 Y2 hs.length e2, .int .i64 (x9)]) (by simp [results, Tryd.results20, go_sem, z0, z1, z2, z3, z4, z5]) rfl ⟨_, _, _, _, _, _, _, _, bs, hs, _, rfl, hown, hlb, hlh, by omega, by omega, HBY.out⟩
      · rw [show (y : Int) / 13 = 1 from by omega]
        go_wp2
        obtain ⟨Y, HY⟩ : ∃ Y, Hid (((((((w11.setCell ⟨w.heap.size, 0, none⟩ (.int .i64 fp)).setCell ⟨w.heap.size, 1, none⟩ (.int .i64 fl)).setCell ⟨w.heap.size, 2, none⟩ (.int .i64 fd)).setCell ⟨w.heap.size, 3, none⟩ (.int .i64 fs)).setCell ⟨w.heap.size, 4, none⟩ (.slice Y1 bs.length e1)).setCell ⟨w.heap.size, 5, none⟩ (.slice Y2 hs.length e2)) = Y) := ⟨_, rfl⟩
        have HBY : Hid (Below w.heap.size w Y) := by rw [← HY.out]; exact below_six HB11.out (Nat.le_refl _) _ _ _ _ _ _
        have KRY : Hid (Blk Y w.heap.size 28 (feedC fp fl fd fs Y1 bs.length e1 Y2 hs.length e2)) := by rw [← HY.out]; exact blk_six KR11.out _ _ _ _ _ _
        have hown : OwnFeed Y w.heap.size Y1 e1 Y2 e2 bs hs := by rw [← HY.out]; exact (own_six HO11.out KR11.out _ _ _ _ _ _).base_le (by omega)
        rw [HY.out]
        obtain ⟨z0, z1, z2, z3, z4, z5⟩ := feed_cells KRY.out
        exact bodyPost_ret (v := .tuple #[feedV fp fl fd fs Y1 bs.length e1 Y2 hs.length e2, .int .i64 (x9 + (z - 2))]) (by simp [results, Tryd.results20, go_sem, z0, z1, z2, z3, z4, z5]) rfl ⟨_, _, _, _, _, _, _, _, bs, hs, _, rfl, hown, hlb, hlh, by omega, by omega, HBY.out⟩
    · have hn2 : 1 ≤ nb := by omega
      go_wp2_with fail
      refine (pick_any (nb : Int) HR8.out (by omega) (by omega) (by omega)).mono ?_
      rintro e w9 ⟨x9, hx9, rfl, hR9, hg9, hz9⟩
      have HR9 := Lib.hid hR9
      have KR9 := Lib.hid (KR8.out.grown hg9 (fun e => by injection e with e; omega))
      have HB9 : Hid (Below w.heap.size w w9) := HB8.out.grown hg9 (by omega) (fun k hk => by injection hk with hk; omega)
      have HO9 : Hid (OwnFeed w9 w7.heap.size Y1 e1 Y2 e2 bs hs) := ⟨owns_keep HO8.out.strs hg9 (fun k hk => by injection hk with hk; omega), ownbs_keep HO8.out.bits hg9 (fun k hk => by injection hk with hk; omega), HO8.out.fit⟩
      have hy9 : w8.heap.size ≤ w9.heap.size := hg9.size
      clear hR9 hg9 hz9
      go_wp2_with fail
      refine (pick_any 14 HR9.out (by omega) (by omega) (by omega)).mono ?_
      rintro e w10 ⟨y, hy, rfl, hR10, hg10, hz10⟩
      have HR10 := Lib.hid hR10
      have KR10 := Lib.hid (KR9.out.grown hg10 (fun e => by injection e with e; omega))
      have HB10 : Hid (Below w.heap.size w w10) := HB9.out.grown hg10 (by omega) (fun k hk => by injection hk with hk; omega)
      have HO10 : Hid (OwnFeed w10 w7.heap.size Y1 e1 Y2 e2 bs hs) := ⟨owns_keep HO9.out.strs hg10 (fun k hk => by injection hk with hk; omega), ownbs_keep HO9.out.bits hg10 (fun k hk => by injection hk with hk; omega), HO9.out.fit⟩
      have hy10 : w9.heap.size ≤ w10.heap.size := hg10.size
      clear hR10 hg10 hz10
      go_wp2_with fail
      refine (pick_any 5 HR10.out (by omega) (by omega) (by omega)).mono ?_
      rintro e w11 ⟨z, hz, rfl, hR11, hg11, hz11⟩
      have KR11 := Lib.hid (KR10.out.grown hg11 (fun e => by injection e with e; omega))
      have HB11 : Hid (Below w.heap.size w w11) := HB10.out.grown hg11 (by omega) (fun k hk => by injection hk with hk; omega)
      have HO11 : Hid (OwnFeed w11 w7.heap.size Y1 e1 Y2 e2 bs hs) := ⟨owns_keep HO10.out.strs hg11 (fun k hk => by injection hk with hk; omega), ownbs_keep HO10.out.bits hg11 (fun k hk => by injection hk with hk; omega), HO10.out.fit⟩
      have hy11 : w10.heap.size ≤ w11.heap.size := hg11.size
      obtain ⟨r0, r1, r2, r3, r4, r5⟩ := feed_cells KR11.out
      have rf := blk_frozen KR11.out
      clear hR11 hg11 hz11
      by_cases hy13 : y < 13
      · rw [show (y : Int) / 13 = 0 from by omega]
        go_wp2
        obtain ⟨Y, HY⟩ : ∃ Y, Hid (((((((w11.setCell ⟨w.heap.size, 0, none⟩ (.int .i64 fp)).setCell ⟨w.heap.size, 1, none⟩ (.int .i64 fl)).setCell ⟨w.heap.size, 2, none⟩ (.int .i64 fd)).setCell ⟨w.heap.size, 3, none⟩ (.int .i64 fs)).setCell ⟨w.heap.size, 4, none⟩ (.slice Y1 bs.length e1)).setCell ⟨w.heap.size, 5, none⟩ (.slice Y2 hs.length e2)) = Y) := ⟨_, rfl⟩
        have HBY : Hid (Below w.heap.size w Y) := by rw [← HY.out]; exact below_six HB11.out (Nat.le_refl _) _ _ _ _ _ _
        have KRY : Hid (Blk Y w.heap.size 28 (feedC fp fl fd fs Y1 bs.length e1 Y2 hs.length e2)) := by rw [← HY.out]; exact blk_six KR11.out _ _ _ _ _ _
        have hown : OwnFeed Y w.heap.size Y1 e1 Y2 e2 bs hs := by rw [← HY.out]; exact (own_six HO11.out KR11.out _ _ _ _ _ _).base_le (by omega)
        rw [HY.out]
        obtain ⟨z0, z1, z2, z3, z4, z5⟩ := feed_cells KRY.out
        exact bodyPost_ret (v := .tuple #[feedV fp fl fd fs Y1 bs.length e1 Y2 hs.length e2, .int .i64 (x9)]) (by simp [results, Tryd.results20, go_sem, z0, z1, z2, z3, z4, z5]) rfl ⟨_, _, _, _, _, _, _, _, bs, hs, _, rfl, hown, hlb, hlh, by omega, by omega, HBY.out⟩
      · rw [show (y : Int) / 13 = 1 from by omega]
        go_wp2
        obtain ⟨Y, HY⟩ : ∃ Y, Hid (((((((w11.setCell ⟨w.heap.size, 0, none⟩ (.int .i64 fp)).setCell ⟨w.heap.size, 1, none⟩ (.int .i64 fl)).setCell ⟨w.heap.size, 2, none⟩ (.int .i64 fd)).setCell ⟨w.heap.size, 3, none⟩ (.int .i64 fs)).setCell ⟨w.heap.size, 4, none⟩ (.slice Y1 bs.length e1)).setCell ⟨w.heap.size, 5, none⟩ (.slice Y2 hs.length e2)) = Y) := ⟨_, rfl⟩
        have HBY : Hid (Below w.heap.size w Y) := by rw [← HY.out]; exact below_six HB11.out (Nat.le_refl _) _ _ _ _ _ _
        have KRY : Hid (Blk Y w.heap.size 28 (feedC fp fl fd fs Y1 bs.length e1 Y2 hs.length e2)) := by rw [← HY.out]; exact blk_six KR11.out _ _ _ _ _ _
        have hown : OwnFeed Y w.heap.size Y1 e1 Y2 e2 bs hs := by rw [← HY.out]; exact (own_six HO11.out KR11.out _ _ _ _ _ _).base_le (by omega)
        rw [HY.out]
        obtain ⟨z0, z1, z2, z3, z4, z5⟩ := feed_cells KRY.out
        exact bodyPost_ret (v := .tuple #[feedV fp fl fd fs Y1 bs.length e1 Y2 hs.length e2, .int .i64 (x9 + (z - 2))]) (by simp [results, Tryd.results20, go_sem, z0, z1, z2, z3, z4, z5]) rfl ⟨_, _, _, _, _, _, _, _, bs, hs, _, rfl, hown, hlb, hlh, by omega, by omega, HBY.out⟩
  · have hx0 : ((x : Int) == 0) = false := beq_eq_false_iff_ne.2 (by omega)
    obtain ⟨w7, HW7⟩ : ∃ w7, Hid (w5 = w7) := ⟨_, rfl⟩
    rw [HW7.out] at KR5 KF5 HB5 HO5 HR5 hz6 ⊢
    have KR7 := KR5
    have HB7 := HB5
    have HO7 := HO5
    have HR7 := HR5
    obtain ⟨k0, k1, k2, k3, k4, k5⟩ := feed_cells KF5.out
    go_wp2_with fail
    refine (drawspoilt_any HR7.out (by omega) p l d s Z1 c1 Z2 c2 b1 h1 HO7.out.at_ (own_nil_cap HO7.out).1 (own_nil_cap HO7.out).2 hb1 hh1).mono ?_
    rintro e w8 ⟨fp, fl, fd, fs, Y1, e1, Y2, e2, bs, hs, q8, rfl, ho8, hlb, hlh, hq8, -, hR8, hg8⟩
    have HO8 := Lib.hid ho8
    have HR8 := Lib.hid hR8
    have KR8 := Lib.hid (KR7.out.grown hg8 (fun e => by injection e with e; omega))
    have HB8 : Hid (Below w.heap.size w w8) := HB7.out.grown hg8 (by omega) (fun k hk => by injection hk with hk; omega)
    have hz8 : w7.heap.size ≤ w8.heap.size := hg8.size
    clear ho8 hR8 hg8
    by_cases hn1 : (nb : Int) < 1
    · go_wp2_with fail
      refine (pick_any 1 HR8.out (by omega) (by omega) (by omega)).mono ?_
      rintro e w9 ⟨x9, hx9, rfl, hR9, hg9, hz9⟩
      have HR9 := Lib.hid hR9
      have KR9 := Lib.hid (KR8.out.grown hg9 (fun e => by injection e with e; omega))
      have HB9 : Hid (Below w.heap.size w w9) := HB8.out.grown hg9 (by omega) (fun k hk => by injection hk with hk; omega)
      have HO9 : Hid (OwnFeed w9 w7.heap.size Y1 e1 Y2 e2 bs hs) := ⟨owns_keep HO8.out.strs hg9 (fun k hk => by injection hk with hk; omega), ownbs_keep HO8.out.bits hg9 (fun k hk => by injection hk with hk; omega), HO8.out.fit⟩
      have hy9 : w8.heap.size ≤ w9.heap.size := hg9.size
      clear hR9 hg9 hz9
      go_wp2_with fail
      refine (pick_any 14 HR9.out (by omega) (by omega) (by omega)).mono ?_
      rintro e w10 ⟨y, hy, rfl, hR10, hg10, hz10⟩
      have HR10 := Lib.hid hR10
      have KR10 := Lib.hid (KR9.out.grown hg10 (fun e => by injection e with e; omega))
      have HB10 : Hid (Below w.heap.size w w10) := HB9.out.grown hg10 (by omega) (fun k hk => by injection hk with hk; omega)
      have HO10 : Hid (OwnFeed w10 w7.heap.size Y1 e1 Y2 e2 bs hs) := ⟨owns_keep HO9.out.strs hg10 (fun k hk => by injection hk with hk; omega), ownbs_keep HO9.out.bits hg10 (fun k hk => by injection hk with hk; omega), HO9.out.fit⟩
      have hy10 : w9.heap.size ≤ w10.heap.size := hg10.size
      clear hR10 hg10 hz10
      go_wp2_with fail
      refine (pick_any 5 HR10.out (by omega) (by omega) (by omega)).mono ?_
      rintro e w11 ⟨z, hz, rfl, hR11, hg11, hz11⟩
      have KR11 := Lib.hid (KR10.out.grown hg11 (fun e => by injection e with e; omega))
      have HB11 : Hid (Below w.heap.size w w11) := HB10.out.grown hg11 (by omega) (fun k hk => by injection hk with hk; omega)
      have HO11 : Hid (OwnFeed w11 w7.heap.size Y1 e1 Y2 e2 bs hs) := ⟨owns_keep HO10.out.strs hg11 (fun k hk => by injection hk with hk; omega), ownbs_keep HO10.out.bits hg11 (fun k hk => by injection hk with hk; omega), HO10.out.fit⟩
      have hy11 : w10.heap.size ≤ w11.heap.size := hg11.size
      obtain ⟨r0, r1, r2, r3, r4, r5⟩ := feed_cells KR11.out
      have rf := blk_frozen KR11.out
      clear hR11 hg11 hz11
      by_cases hy13 : y < 13
      · rw [show (y : Int) / 13 = 0 from by omega]
        go_wp2
        obtain ⟨Y, HY⟩ : ∃ Y, Hid (((((((w11.setCell ⟨w.heap.size, 0, none⟩ (.int .i64 fp)).setCell ⟨w.heap.size, 1, none⟩ (.int .i64 fl)).setCell ⟨w.heap.size, 2, none⟩ (.int .i64 fd)).setCell ⟨w.heap.size, 3, none⟩ (.int .i64 fs)).setCell ⟨w.heap.size, 4, none⟩ (.slice Y1 bs.length e1)).setCell ⟨w.heap.size, 5, none⟩ (.slice Y2 hs.length e2)) = Y) := ⟨_, rfl⟩
        have HBY : Hid (Below w.heap.size w Y) := by rw [← HY.out]; exact below_six HB11.out (Nat.le_refl _) _ _ _ _ _ _
        have KRY : Hid (Blk Y w.heap.size 28 (feedC fp fl fd fs Y1 bs.length e1 Y2 hs.length e2)) := by rw [← HY.out]; exact blk_six KR11.out _ _ _ _ _ _
        have hown : OwnFeed Y w.heap.size Y1 e1 Y2 e2 bs hs := by rw [← HY.out]; exact (own_six HO11.out KR11.out _ _ _ _ _ _).base_le (by omega)
        rw [HY.out]
        obtain ⟨z0, z1, z2, z3, z4, z5⟩ := feed_cells KRY.out
        exact bodyPost_ret (v := .tuple #[feedV fp fl fd fs Y1 bs.length e1 Y2 hs.length e2, .int .i64 (x9)]) (by simp [results, Tryd.results20, go_sem, z0, z1, z2, z3, z4, z5]) rfl ⟨_, _, _, _, _, _, _, _, bs, hs, _, rfl, hown, hlb, hlh, by omega, by omega, HBY.out⟩
      · rw [show (y : Int) / 13 = 1 from by omega]
        go_wp2
        obtain ⟨Y, HY⟩ : ∃ Y, Hid (((((((w11.setCell ⟨w.heap.size, 0, none⟩ (.int .i64 fp)).setCell ⟨w.heap.size, 1, none⟩ (.int .i64 fl)).setCell ⟨w.heap.size, 2, none⟩ (.int .i64 fd)).setCell ⟨w.heap.size, 3, none⟩ (.int .i64 fs)).setCell ⟨w.heap.size, 4, none⟩ (.slice Y1 bs.length e1)).setCell ⟨w.heap.size, 5, none⟩ (.slice Y2 hs.length e2)) = Y) := ⟨_, rfl⟩
        have HBY : Hid (Below w.heap.size w Y) := by rw [← HY.out]; exact below_six HB11.out (Nat.le_refl _) _ _ _ _ _ _
        have KRY : Hid (Blk Y w.heap.size 28 (feedC fp fl fd fs Y1 bs.length e1 Y2 hs.length e2)) := by rw [← HY.out]; exact blk_six KR11.out _ _ _ _ _ _
        have hown : OwnFeed Y w.heap.size Y1 e1 Y2 e2 bs hs := by rw [← HY.out]; exact (own_six HO11.out KR11.out _ _ _ _ _ _).base_le (by omega)
        rw [HY.out]
        obtain ⟨z0, z1, z2, z3, z4, z5⟩ := feed_cells KRY.out
        exact bodyPost_ret (v := .tuple #[feedV fp fl fd fs Y1 bs.length e1 Y2 hs.length e2, .int .i64 (x9 + (z - 2))]) (by simp [results, Tryd.results20, go_sem, z0, z1, z2, z3, z4, z5]) rfl ⟨_, _, _, _, _, _, _, _, bs, hs, _, rfl, hown, hlb, hlh, by omega, by omega, HBY.out⟩
    · have hn2 : 1 ≤ nb := by omega
      go_wp2_with fail
      refine (pick_any (nb : Int) HR8.out (by omega) (by omega) (by omega)).mono ?_
      rintro e w9 ⟨x9, hx9, rfl, hR9, hg9, hz9⟩
      have HR9 := Lib.hid hR9
      have KR9 := Lib.hid (KR8.out.grown hg9 (fun e => by injection e with e; omega))
      have HB9 : Hid (Below w.heap.size w w9) := HB8.out.grown hg9 (by omega) (fun k hk => by injection hk with hk; omega)
      have HO9 : Hid (OwnFeed w9 w7.heap.size Y1 e1 Y2 e2 bs hs) := ⟨owns_keep HO8.out.strs hg9 (fun k hk => by injection hk with hk; omega), ownbs_keep HO8.out.bits hg9 (fun k hk => by injection hk with hk; omega), HO8.out.fit⟩
      have hy9 : w8.heap.size ≤ w9.heap.size := hg9.size
      clear hR9 hg9 hz9
      go_wp2_with fail
      refine (pick_any 14 HR9.out (by omega) (by omega) (by omega)).mono ?_
      rintro e w10 ⟨y, hy, rfl, hR10, hg10, hz10⟩
      have HR10 := Lib.hid hR10
      have KR10 := Lib.hid (KR9.out.grown hg10 (fun e => by injection e with e; omega))
      have HB10 : Hid (Below w.heap.size w w10) := HB9.out.grown hg10 (by omega) (fun k hk => by injection hk with hk; omega)
      have HO10 : Hid (OwnFeed w10 w7.heap.size Y1 e1 Y2 e2 bs hs) := ⟨owns_keep HO9.out.strs hg10 (fun k hk => by injection hk with hk; omega), ownbs_keep HO9.out.bits hg10 (fun k hk => by injection hk with hk; omega), HO9.out.fit⟩
      have hy10 : w9.heap.size ≤ w10.heap.size := hg10.size
      clear hR10 hg10 hz10
      go_wp2_with fail
      refine (pick_any 5 HR10.out (by omega) (by omega) (by omega)).mono ?_
      rintro e w11 ⟨z, hz, rfl, hR11, hg11, hz11⟩
      have KR11 := Lib.hid (KR10.out.grown hg11 (fun e => by injection e with e; omega))
      have HB11 : Hid (Below w.heap.size w w11) := HB10.out.grown hg11 (by omega) (fun k hk => by injection hk with hk; omega)
      have HO11 : Hid (OwnFeed w11 w7.heap.size Y1 e1 Y2 e2 bs hs) := ⟨owns_keep HO10.out.strs hg11 (fun k hk => by injection hk with hk; omega), ownbs_keep HO10.out.bits hg11 (fun k hk => by injection hk with hk; omega), HO10.out.fit⟩
      have hy11 : w10.heap.size ≤ w11.heap.size := hg11.size
      obtain ⟨r0, r1, r2, r3, r4, r5⟩ := feed_cells KR11.out
      have rf := blk_frozen KR11.out
      clear hR11 hg11 hz11
      by_cases hy13 : y < 13
      · rw [show (y : Int) / 13 = 0 from by omega]
        go_wp2
        obtain ⟨Y, HY⟩ : ∃ Y, Hid (((((((w11.setCell ⟨w.heap.size, 0, none⟩ (.int .i64 fp)).setCell ⟨w.heap.size, 1, none⟩ (.int .i64 fl)).setCell ⟨w.heap.size, 2, none⟩ (.int .i64 fd)).setCell ⟨w.heap.size, 3, none⟩ (.int .i64 fs)).setCell ⟨w.heap.size, 4, none⟩ (.slice Y1 bs.length e1)).setCell ⟨w.heap.size, 5, none⟩ (.slice Y2 hs.length e2)) = Y) := ⟨_, rfl⟩
        have HBY : Hid (Below w.heap.size w Y) := by rw [← HY.out]; exact below_six HB11.out (Nat.le_refl _) _ _ _ _ _ _
        have KRY : Hid (Blk Y w.heap.size 28 (feedC fp fl fd fs Y1 bs.length e1 Y2 hs.length e2)) := by rw [← HY.out]; exact blk_six KR11.out _ _ _ _ _ _
        have hown : OwnFeed Y w.heap.size Y1 e1 Y2 e2 bs hs := by rw [← HY.out]; exact (own_six HO11.out KR11.out _ _ _ _ _ _).base_le (by omega)
        rw [HY.out]
        obtain ⟨z0, z1, z2, z3, z4, z5⟩ := feed_cells KRY.out
        exact bodyPost_ret (v := .tuple #[feedV fp fl fd fs Y1 bs.length e1 Y2 hs.length e2, .int .i64 (x9)]) (by simp [results, Tryd.results20, go_sem, z0, z1, z2, z3, z4, z5]) rfl ⟨_, _, _, _, _, _, _, _, bs, hs, _, rfl, hown, hlb, hlh, by omega, by omega, HBY.out⟩
      · rw [show (y : Int) / 13 = 1 from by omega]
        go_wp2
        obtain ⟨Y, HY⟩ : ∃ Y, Hid (((((((w11.setCell ⟨w.heap.size, 0, none⟩ (.int .i64 fp)).setCell ⟨w.heap.size, 1, none⟩ (.int .i64 fl)).setCell ⟨w.heap.size, 2, none⟩ (.int .i64 fd)).setCell ⟨w.heap.size, 3, none⟩ (.int .i64 fs)).setCell ⟨w.heap.size, 4, none⟩ (.slice Y1 bs.length e1)).setCell ⟨w.heap.size, 5, none⟩ (.slice Y2 hs.length e2)) = Y) := ⟨_, rfl⟩
        have HBY : Hid (Below w.heap.size w Y) := by rw [← HY.out]; exact below_six HB11.out (Nat.le_refl _) _ _ _ _ _ _
        have KRY : Hid (Blk Y w.heap.size 28 (feedC fp fl fd fs Y1 bs.length e1 Y2 hs.length e2)) := by rw [← HY.out]; exact blk_six KR11.out _ _ _ _ _ _
        have hown : OwnFeed Y w.heap.size Y1 e1 Y2 e2 bs hs := by rw [← HY.out]; exact (own_six HO11.out KR11.out _ _ _ _ _ _).base_le (by omega)
        rw [HY.out]
        obtain ⟨z0, z1, z2, z3, z4, z5⟩ := feed_cells KRY.out
        exact bodyPost_ret (v := .tuple #[feedV fp fl fd fs Y1 bs.length e1 Y2 hs.length e2, .int .i64 (x9 + (z - 2))]) (by simp [results, Tryd.results20, go_sem, z0, z1, z2, z3, z4, z5]) rfl ⟨_, _, _, _, _, _, _, _, bs, hs, _, rfl, hown, hlb, hlh, by omega, by omega, HBY.out⟩

end Go.Proofs.YtnffmmaclmeajaaDoor
