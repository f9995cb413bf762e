/- Contracts of l11Copy, l91Whole and l91Reader: a feed in memory of the call's own. Conditions: the texts lie in memory; the reader's place is at most 60000. -/
import Derived.Test.YtgklkceoafohmaaDoorFeedCopy
import Derived.Test.YtgklkceoafohmaaDoorBaseE
namespace Go.Proofs.YtgklkceoafohmaaDoor
open Go.RowKit
set_option linter.unusedVariables false

/-- A feed that was made. -/
def FeedMade (w : World) (p l d s : Int) (bs : List ByteArray) (hs : List Bool) (e : Ending) (w' : World) : Prop :=
  ∃ A1 c1 A2 c2, e = .returned (feedV p l d s A1 bs.length c1 A2 hs.length c2) ∧ OwnFeed w' w.heap.size A1 c1 A2 c2 bs hs ∧ Below w.heap.size w w'
theorem own_nil_cap {w : World} {base : Nat} {A1 A2 : Option Addr} {c1 c2 : Nat} {bs : List ByteArray} {hs : List Bool} (h : OwnFeed w base A1 c1 A2 c2 bs hs) : (A1 = none → c1 = 0) ∧ (A2 = none → c2 = 0) := by
  constructor
  · intro e
    rcases h.strs.2 with ⟨hv, _⟩ | ⟨g, c, cur, hv, _⟩
    · injection hv
    · injection hv with hA _ _; rw [e] at hA; cases hA
  · intro e
    rcases h.bits.2 with ⟨hv, _⟩ | ⟨g, c, cur, hv, _⟩
    · injection hv
    · injection hv with hA _ _; rw [e] at hA; cases hA

set_option maxHeartbeats 4000000 in
set_option maxRecDepth 100000 in
theorem copyFeed_any (p l d s : Int) (A1 : Option Addr) (c1 : Nat) (A2 : Option Addr) (c2 : Nat) (bs : List ByteArray) (hs : List Bool) (w : World) (hF : FeedAt w w.heap.size A1 A2 bs hs) (h1 : A1 = none → c1 = 0) (h2 : A2 = none → c2 = 0) (hlb : bs.length ≤ 1048576) (hlh : hs.length ≤ 1048576) :
    Calls Tryd.prog 40 #[feedV p l d s A1 bs.length c1 A2 hs.length c2] w (FeedMade w p l d s bs hs) := by
  have HF := Lib.hid hF
  have H1 := Lib.hid h1
  have H2 := Lib.hid h2
  clear hF h1 h2
  obtain ⟨W, HW⟩ : ∃ W, Hid ((w.alloc (.cells (feedC p l d s A1 bs.length c1 A2 hs.length c2) 28)).alloc (.cells (feedC 0 0 0 0 none 0 0 none 0 0) 28) = W) := ⟨_, rfl⟩
  have HB : Hid (Below w.heap.size w W) := by rw [← HW.out]; exact ((Below.refl _ w).alloc (Nat.le_refl _) _).alloc (by simp) _
  have hz : w.heap.size + 2 ≤ W.heap.size := by rw [← HW.out]; simp
  have HZ : Hid (W.heap.size = w.heap.size + 1 + 1) := by show _ = _; rw [← HW.out]; simp
  have HOW : Hid (OwnStrs (W.alloc (.cells #[] 9)) (w.heap.size + 1 + 1) (some ⟨w.heap.size + 1 + 1, 0, none⟩) 0 []) := by have h := OwnStrs.new W; rw [HZ.out] at h; exact h
  have KP : Hid (Blk W w.heap.size 28 (feedC p l d s A1 bs.length c1 A2 hs.length c2)) := by rw [← HW.out]; exact (Blk.new w 28 _).alloc _
  have KR : Hid (Blk W (w.heap.size + 1) 28 (feedC 0 0 0 0 none 0 0 none 0 0)) := by
    rw [← HW.out]
    have h := Blk.new (w.alloc (.cells (feedC p l d s A1 bs.length c1 A2 hs.length c2) 28)) 28 (feedC 0 0 0 0 none 0 0 none 0 0)
    rw [World.size_alloc] at h
    exact h
  have HFW : Hid (FeedAt W W.heap.size A1 A2 bs hs) := HF.out.belowS HB.out
  have HLB : Hid (bs.length ≤ 1048576) := hlb
  have HLH : Hid (hs.length ≤ 1048576) := hlh
  clear hlb hlh
  go_enter Tryd.func40, Tryd.ntmps40
  go_wp2_with (first
    | (at_builtin
       rw [HW.out]
       refine wpList_app_strs rfl (.tmp 3) (.tmp 5) rfl _ (w.heap.size + 1 + 1) _ 0 [] rfl A1 c1 bs rfl HOW.out (HFW.out.allocS _).strs (by have := HLB.out; simp; omega) (by simp; omega) H1.out ?_
       intro v w4 hA
       rw [List.nil_append] at hA
       obtain ⟨⟨X4, e4, rfl, ho4⟩, _, hb4⟩ := hA
       have KP4 := Lib.hid ((KP.out.alloc (.cells #[] 9)).below hb4 (by omega))
       have KR4 := Lib.hid ((KR.out.alloc (.cells #[] 9)).below hb4 (by omega))
       obtain ⟨a0, a1, a2, a3, a4, a5⟩ := feed_cells KP4.out
       have af := blk_frozen KP4.out
       have HO4 := Lib.hid ho4
       have HB4 : Hid (Below w.heap.size w w4) := (HB.out.alloc HB.out.size _).trans (hb4.mono (by omega))
       have hz4 : W.heap.size ≤ w4.heap.size := by have := hb4.size; simp at this; omega
       have hlt4 : w.heap.size < w4.heap.size := by omega
       clear hb4 ho4)
    | (at_builtin
       obtain ⟨V, HV⟩ : ∃ V, Hid (w4.setCell ⟨w.heap.size, 4, none⟩ (.slice X4 bs.length e4) = V) := ⟨_, rfl⟩
       have HBV : Hid (Below w.heap.size w V) := by rw [← HV.out]; exact HB4.out.setCell (p := ⟨w.heap.size, 4, none⟩) (Nat.le_refl _) _
       have hzV : W.heap.size ≤ V.heap.size := by rw [← HV.out]; simp; omega
       have KPV : Hid (Blk V w.heap.size 28 (feedC p l d s X4 bs.length e4 A2 hs.length c2)) := by rw [← HV.out]; exact KP4.out.setOwn 4 _
       have KRV : Hid (Blk V (w.heap.size + 1) 28 (feedC 0 0 0 0 none 0 0 none 0 0)) := by rw [← HV.out]; exact KR4.out.setOther (p := ⟨w.heap.size, 4, none⟩) (by show w.heap.size ≠ w.heap.size + 1; omega) _
       have HOV : Hid (OwnStrs V (w.heap.size + 1 + 1) X4 e4 bs) := by
         rw [← HV.out]
         exact owns_block HO4.out fun x hx => Below.heap_setCell w4 _ _ x (by have := (owns_lt HO4.out x hx).1; show x ≠ w.heap.size; omega)
       have HZV : Hid (V.heap.size = w4.heap.size) := by show _ = _; rw [← HV.out]; simp
       have HOB : Hid (OwnBools (V.alloc (.cells #[] 4)) w4.heap.size (some ⟨w4.heap.size, 0, none⟩) 0 []) := by have h := OwnBools.new V; rw [HZV.out] at h; exact h
       rw [HV.out]
       refine wpList_app_bools rfl (.tmp 8) (.tmp 10) rfl _ w4.heap.size _ 0 [] rfl A2 c2 hs rfl HOB.out ((HF.out.belowS HBV.out).allocS _).bits (by have := HLH.out; simp; omega) (by have := HZV.out; simp; omega) H2.out ?_
       intro v w6 hA
       rw [List.nil_append] at hA
       obtain ⟨⟨X6, e6, rfl, ho6⟩, _, hb6⟩ := hA
       have KP6 := Lib.hid ((KPV.out.alloc (.cells #[] 4)).below hb6 (by omega))
       have KR6 := Lib.hid ((KRV.out.alloc (.cells #[] 4)).below hb6 (by omega))
       clear a0 a1 a2 a3 a4 a5 af
       obtain ⟨a0, a1, a2, a3, a4, a5⟩ := feed_cells KP6.out
       have af := blk_frozen KP6.out
       obtain ⟨r0, r1, r2, r3, r4, r5⟩ := feed_cells KR6.out
       have rf := blk_frozen KR6.out
       have HO6 := Lib.hid ho6
       have HS6 : Hid (OwnStrs w6 (w.heap.size + 1 + 1) X4 e4 bs) := owns_block (HOV.out.alloc (.cells #[] 4)) fun x hx => hb6.block x (by have := (owns_lt HOV.out x hx).2; have := HZV.out; omega)
       have HB6 : Hid (Below w.heap.size w w6) := (HBV.out.alloc HBV.out.size _).trans (hb6.mono (by omega))
       have hz6 : V.heap.size ≤ w6.heap.size := by have := hb6.size; simp at this; omega
       have hlt6 : w.heap.size < w6.heap.size := by omega
       have hlt7 : w.heap.size + 1 < w6.heap.size := by omega
       clear hb6 ho6))
  obtain ⟨Y, HY⟩ : ∃ Y, Hid ((((((((w6.setCell ⟨w.heap.size, 5, none⟩ (.slice X6 hs.length e6)).setCell ⟨w.heap.size + 1, 0, none⟩ (.int .i64 p)).setCell ⟨w.heap.size + 1, 1, none⟩ (.int .i64 l)).setCell ⟨w.heap.size + 1, 2, none⟩ (.int .i64 d)).setCell ⟨w.heap.size + 1, 3, none⟩ (.int .i64 s)).setCell ⟨w.heap.size + 1, 4, none⟩ (.slice X4 bs.length e4)).setCell ⟨w.heap.size + 1, 5, none⟩ (.slice X6 hs.length e6)) = Y) := ⟨_, rfl⟩
  have hbl6 : Below w.heap.size w (w6.setCell ⟨w.heap.size, 5, none⟩ (.slice X6 hs.length e6)) := HB6.out.setCell (p := ⟨w.heap.size, 5, none⟩) (Nat.le_refl _) _
  have HBY : Hid (Below w.heap.size w Y) := by rw [← HY.out]; exact below_six hbl6 (by omega) _ _ _ _ _ _
  have KRY : Hid (Blk Y (w.heap.size + 1) 28 (feedC p l d s X4 bs.length e4 X6 hs.length e6)) := by
    rw [← HY.out]
    exact blk_six (KR6.out.setOther (p := ⟨w.heap.size, 5, none⟩) (by show w.heap.size ≠ w.heap.size + 1; omega) _) _ _ _ _ _ _
  have hk : ∀ g, w.heap.size + 2 ≤ g → Y.heap[g]? = w6.heap[g]? := fun g hg => by
    rw [← HY.out]
    rw [Below.heap_setCell _ ⟨w.heap.size + 1, 5, none⟩ _ g (by show g ≠ w.heap.size + 1; omega), Below.heap_setCell _ ⟨w.heap.size + 1, 4, none⟩ _ g (by show g ≠ w.heap.size + 1; omega), Below.heap_setCell _ ⟨w.heap.size + 1, 3, none⟩ _ g (by show g ≠ w.heap.size + 1; omega), Below.heap_setCell _ ⟨w.heap.size + 1, 2, none⟩ _ g (by show g ≠ w.heap.size + 1; omega), Below.heap_setCell _ ⟨w.heap.size + 1, 1, none⟩ _ g (by show g ≠ w.heap.size + 1; omega), Below.heap_setCell _ ⟨w.heap.size + 1, 0, none⟩ _ g (by show g ≠ w.heap.size + 1; omega), Below.heap_setCell _ ⟨w.heap.size, 5, none⟩ _ g (by show g ≠ w.heap.size; omega)]
  have hown : OwnFeed Y w.heap.size X4 e4 X6 e6 bs hs := by
    refine ⟨(owns_block HS6.out fun x hx => hk x ?_).base_le (by omega), (ownb_block HO6.out fun x hx => hk x ?_).base_le (by omega), HF.out.fit⟩
    · have := (owns_lt HS6.out x hx).1; omega
    · have := (ownb_lt HO6.out x hx).1; omega
  rw [HY.out]
  clear hk
  obtain ⟨z0, z1, z2, z3, z4, z5⟩ := feed_cells KRY.out
  exact bodyPost_ret (v := feedV p l d s X4 bs.length e4 X6 hs.length e6) (by simp [results, Tryd.results40, go_sem, z0, z1, z2, z3, z4, z5]) rfl ⟨_, _, _, _, rfl, hown, HBY.out⟩

/-- A head that was made of leaves has length 0 only where nothing was made. -/
theorem made_zero {s : Int} {zs : List Int} (h : 0 < zs.length) : madeL s zs = 0 → madeS s zs = 0 := fun e => by
  by_cases hk : madeOk s zs = true
  · rw [(made_yes hk).1] at e; omega
  · exact (made_no hk).2.2

/-- Some feed that was made, small. -/
def FeedOut (w : World) (e : Ending) (w' : World) : Prop :=
  ∃ p l d s A1 c1 A2 c2 bs hs, e = .returned (feedV p l d s A1 (List.length bs) c1 A2 (List.length hs) c2) ∧ OwnFeed w' w.heap.size A1 c1 A2 c2 bs hs ∧ bs.length ≤ 16 ∧ hs.length ≤ 16 ∧ Below w.heap.size w w'
def FeedRead (w : World) (B g : Nat) (A : Option Addr) (len cap q : Nat) (e : Ending) (w' : World) : Prop :=
  ∃ p l d s A1 c1 A2 c2 bs hs q', e = .returned (feedV p l d s A1 (List.length bs) c1 A2 (List.length hs) c2) ∧ OwnFeed w' w.heap.size A1 c1 A2 c2 bs hs ∧ bs.length ≤ 16 ∧ hs.length ≤ 16 ∧ q' ≤ q + 16 ∧ (l = 0 → s = 0) ∧ Rd w' B g A len cap q' ∧ w.grownBy w' (some g)
theorem Fd.drew {w : World} {base g : Nat} {p l d s : Int} {A1 A2 : Option Addr} {c1 c2 : Nat} {bs : List ByteArray} {hs : List Bool} (h : Fd w base g p l d s A1 c1 A2 c2 bs hs) : Fd w.drew base g p l d s A1 c1 A2 c2 bs hs := h.keep fun _ _ _ => rfl
theorem Fit.snoc {bs : List ByteArray} (h : Fit bs) {x : ByteArray} (hx : x.size ≤ maxLen) : Fit (bs ++ [x]) := Fit.of fun y hy => by
  rcases List.mem_append.1 hy with hy | hy
  · exact h.mem y hy
  · have : y = x := by simpa using hy
    subst this; exact hx
/-- Texts that lie in memory are kept where the reader's block turns. -/
theorem StrsAt.picked {w w' : World} {B0 B g len cap p : Nat} {A1 A : Option Addr} {bs : List ByteArray} (h : StrsAt w B0 A1 bs) (hB : B0 ≤ w.heap.size) (hR : Rd w B g A len cap p) (hg : w.grownBy w' (some g)) : StrsAt w' B0 A1 bs := fun hn => by
  obtain ⟨b, o, e, hb, hc⟩ := h hn
  have hbg : b ≠ g := fun e' => by
    subst e'
    have h0 := hc 0 hn
    have hcell := World.cell?_of_block (w := w) (w' := w) (a := ⟨b, o + 0, none⟩) rfl
    have h1 := hR.blk
    simp [World.cell?, h1] at h0
    have ho : o = 0 ∨ o = 1 ∨ 2 ≤ o := by omega
    rcases ho with rfl | rfl | ho
    · simp at h0
    · simp at h0
    · rw [List.getElem?_eq_none (by simp; omega)] at h0; cases h0
  exact ⟨b, o, e, hb, fun k hk => (World.cell?_of_block (a := ⟨b, o + k, none⟩) (hg.block b (by omega) (fun e => hbg (by injection e)))).trans (hc k hk)⟩



set_option maxHeartbeats 4000000 in
set_option maxRecDepth 100000 in
theorem drawreader_any {B g len cap q : Nat} {A : Option Addr} {w : World} (hR : Rd w B g A len cap q) (hq : q ≤ 60000) (sec : Int) (A0 : Option Addr) (c0 : Nat) (b0 : List ByteArray) (hs0 : 1 ≤ sec) (hs1 : sec < 997) (hI : StrsAt w w.heap.size A0 b0) (hsh : ∀ x ∈ b0, x.size ≤ 8) (h16 : b0.length ≤ 16) :
    Calls Tryd.prog 30 #[.pointer (some ⟨g, 0, none⟩), .int .i64 sec, .slice A0 b0.length c0] w (FeedRead w B g A len cap q) := by
  have HI := Lib.hid hI
  have HSH := Lib.hid hsh
  have HSHT : Hid (Short b0) := fun k hk => by rw [sth_get b0 k hk]; exact hsh _ (List.getElem_mem hk)
  have HR := Lib.hid hR
  have hgw := hR.lt
  have hgB := hR.big
  clear hR
  obtain ⟨pb0, pb1⟩ := publicOr_bd (s := sec) ⟨hs0, hs1⟩
  obtain ⟨pb, HPB⟩ : ∃ pb, Hid (publicOr sec = pb) := ⟨_, rfl⟩
  rw [HPB.out] at pb0 pb1
  obtain ⟨W, HW⟩ : ∃ W, Hid (w.alloc (.cells (feedC 0 0 0 0 none 0 0 none 0 0) 28) = W) := ⟨_, rfl⟩
  have HB : Hid (Below w.heap.size w W) := by rw [← HW.out]; exact (Below.refl _ w).alloc (Nat.le_refl _) _
  have hzW : W.heap.size = w.heap.size + 1 := by rw [← HW.out]; simp
  have KRW : Hid (Blk W w.heap.size 28 (feedC 0 0 0 0 none 0 0 none 0 0)) := by rw [← HW.out]; exact Blk.new w _ _
  have HZW := Lib.hid hzW
  clear hzW hI hsh
  obtain ⟨n, HN⟩ : ∃ n, Hid (b0.length = n) := ⟨_, rfl⟩
  rw [HN.out] at h16 ⊢
  go_enter Tryd.func30, Tryd.ntmps30
  go_wp2_with fail
  rw [HW.out]
  refine (spublic_any sec _).mono ?_
  rintro e w' ⟨rfl, rfl⟩
  rw [HPB.out]
  go_wp2_with fail
  refine (sfeedNew_yes pb _ pb0 pb1).mono ?_
  rintro e w1 ⟨g1, g2, rfl, ho1, hb1⟩
  have KR1 := Lib.hid (KRW.out.below hb1 KRW.out.lt)
  have HB1 : Hid (Below w.heap.size w w1) := HB.out.trans (hb1.mono HB.out.size)
  have hz1 : w.heap.size + 1 ≤ w1.heap.size := by have := hb1.size; have := HZW.out; omega
  obtain ⟨V, HV⟩ : ∃ V, Hid (w1.alloc (.cells (feedC pb 0 0 0 (some ⟨g1, 0, none⟩) 0 0 (some ⟨g2, 0, none⟩) 0 0) 28) = V) := ⟨_, rfl⟩
  have HBV : Hid (Below w.heap.size w V) := by rw [← HV.out]; exact HB1.out.alloc HB1.out.size _
  have KRV : Hid (Blk V w.heap.size 28 (feedC 0 0 0 0 none 0 0 none 0 0)) := by rw [← HV.out]; exact KR1.out.alloc _
  have HDV : Hid (Fd V (w.heap.size + 1) w1.heap.size pb 0 0 0 (some ⟨g1, 0, none⟩) 0 (some ⟨g2, 0, none⟩) 0 [] []) := by
    rw [← HV.out]
    have := HZW.out
    exact ⟨(ho1.strs.alloc _).base_le (by omega), (ho1.bits.alloc _).base_le (by omega), Blk.new w1 _ _, hz1⟩
  have hzV : w1.heap.size < V.heap.size := HDV.out.blk.lt
  have HO1 := Lib.hid ho1
  clear hb1 ho1
  by_cases hn0 : n = 0
  · subst hn0
    obtain ⟨r0, r1, r2, r3, r4, r5⟩ := feed_cells KR1.out
    have rf := blk_frozen KR1.out
    have hlt1 : w.heap.size < w1.heap.size := by omega
    go_wp2
    obtain ⟨Y, HY⟩ : ∃ Y, Hid (((((((w1.setCell ⟨w.heap.size, 0, none⟩ (.int .i64 pb)).setCell ⟨w.heap.size, 1, none⟩ (.int .i64 0)).setCell ⟨w.heap.size, 2, none⟩ (.int .i64 0)).setCell ⟨w.heap.size, 3, none⟩ (.int .i64 0)).setCell ⟨w.heap.size, 4, none⟩ (.slice (some ⟨g1, 0, none⟩) 0 0)).setCell ⟨w.heap.size, 5, none⟩ (.slice (some ⟨g2, 0, none⟩) 0 0)).alloc (.cells (feedC pb 0 0 0 (some ⟨g1, 0, none⟩) 0 0 (some ⟨g2, 0, none⟩) 0 0) 28) = Y) := ⟨_, rfl⟩
    have HBY : Hid (Below w.heap.size w1 Y) := by rw [← HY.out]; exact (below_six (Below.refl _ _) (Nat.le_refl _) _ _ _ _ _ _).alloc (by simp; omega) _
    have KRY : Hid (Blk Y w.heap.size 28 (feedC pb 0 0 0 (some ⟨g1, 0, none⟩) 0 0 (some ⟨g2, 0, none⟩) 0 0)) := by rw [← HY.out]; exact (blk_six KR1.out _ _ _ _ _ _).alloc _
    have hk : ∀ i, (w.heap.size + 1) ≤ i → i < w1.heap.size → Y.heap[i]? = w1.heap[i]? := fun i hi hl => by
      rw [← HY.out]
      rw [Below.heap_alloc _ _ i (by simp; omega), Below.heap_setCell _ ⟨w.heap.size, 5, none⟩ _ i (by show i ≠ w.heap.size; omega), Below.heap_setCell _ ⟨w.heap.size, 4, none⟩ _ i (by show i ≠ w.heap.size; omega), Below.heap_setCell _ ⟨w.heap.size, 3, none⟩ _ i (by show i ≠ w.heap.size; omega), Below.heap_setCell _ ⟨w.heap.size, 2, none⟩ _ i (by show i ≠ w.heap.size; omega), Below.heap_setCell _ ⟨w.heap.size, 1, none⟩ _ i (by show i ≠ w.heap.size; omega), Below.heap_setCell _ ⟨w.heap.size, 0, none⟩ _ i (by show i ≠ w.heap.size; omega)]
    have hown : OwnFeed Y w.heap.size (some ⟨g1, 0, none⟩) 0 (some ⟨g2, 0, none⟩) 0 [] [] := by
      have hzw := HZW.out
      refine ⟨(owns_block HO1.out.strs fun x hx => hk x ?_ (owns_lt HO1.out.strs x hx).2).base_le (by omega), (ownb_block HO1.out.bits fun x hx => hk x ?_ (ownb_lt HO1.out.bits x hx).2).base_le (by omega), fun k => Nat.zero_le _⟩
      · have := (owns_lt HO1.out.strs x hx).1; omega
      · have := (ownb_lt HO1.out.bits x hx).1; omega
    rw [HY.out]
    clear hk
    obtain ⟨z0, z1, z2, z3, z4, z5⟩ := feed_cells KRY.out
    exact bodyPost_ret (v := feedV pb 0 0 0 (some ⟨g1, 0, none⟩) 0 0 (some ⟨g2, 0, none⟩) 0 0) (by simp [results, Tryd.results30, go_sem, z0, z1, z2, z3, z4, z5]) rfl ⟨_, _, _, _, _, _, _, _, [], [], q, rfl, hown, by simp, by simp, by omega, fun _ => rfl, (HR.out.then_ HB1.out hgw).then_ HBY.out hgw, grown_then (grown_of_below HB1.out _) HBY.out⟩
  · have hnb : ((n : Int) == 0) = false := beq_eq_false_iff_ne.2 (by omega)
    have hnb2 : (n == 0) = false := beq_eq_false_iff_ne.2 (by omega)
    have HLL : Hid ((leafL b0).length = n) := by show _ = _; rw [leafL_length]; exact HN.out
    have C1 : Hid (Calls Tryd.prog 34 #[.slice A0 n c0] V (RetInts V (leafL b0))) := by
      have h := sleaves_any A0 c0 b0 V (HI.out.belowS HBV.out) HSHT.out (by rw [HN.out]; omega)
      rw [HN.out] at h
      exact h
    go_wp2_with fail
    rw [HV.out]
    refine C1.out.mono ?_
    rintro e w2 ⟨X2, e2, rfl, ho2, hb2⟩
    rw [HLL.out]
    have HD2 := Lib.hid (HDV.out.below hb2)
    have KR2 := Lib.hid (KRV.out.below hb2 KRV.out.lt)
    have HB2 : Hid (Below w.heap.size w w2) := HBV.out.trans (hb2.mono HBV.out.size)
    obtain ⟨y, hX⟩ := OwnInts.some_ ho2 (by rw [HLL.out]; omega)
    subst hX
    have C2 : Hid (Calls Tryd.prog 81 #[.int .i64 sec, .slice (some ⟨y, 0, none⟩) n e2] w2 fun e w' => e = .returned (.tuple #[headV (madeL sec (leafL b0)) (madeD sec (leafL b0)) (madeS sec (leafL b0)), .bool (madeOk sec (leafL b0))]) ∧ Below w2.heap.size w2 w') := by
      have h := smake_any sec (leafL b0) y 0 e2 w2 ho2.ints ho2.le.1 ho2.le.2
      rw [HLL.out] at h
      exact h
    obtain ⟨hl, Hl⟩ : ∃ x, Hid (madeL sec (leafL b0) = x) := ⟨_, rfl⟩
    obtain ⟨hd, Hd⟩ : ∃ x, Hid (madeD sec (leafL b0) = x) := ⟨_, rfl⟩
    obtain ⟨ht, Ht⟩ : ∃ x, Hid (madeS sec (leafL b0) = x) := ⟨_, rfl⟩
    obtain ⟨hr, Hr⟩ : ∃ x, Hid (madeOk sec (leafL b0) = x) := ⟨_, rfl⟩
    have HZS : Hid (hl = 0 → ht = 0) := by
      show hl = 0 → ht = 0
      rw [← Hl.out, ← Ht.out]
      exact made_zero (by rw [HLL.out]; omega)
    rw [Hl.out, Hd.out, Ht.out, Hr.out] at C2
    clear hb2 ho2
    go_wp2_with fail
    refine C2.out.mono ?_
    rintro e w3 ⟨rfl, hb3⟩
    have HD3 := Lib.hid (HD2.out.below hb3)
    have KR3 := Lib.hid (KR2.out.below hb3 KR2.out.lt)
    have HB3 : Hid (Below w.heap.size w w3) := HB2.out.trans (hb3.mono HB2.out.size)
    have kf3 := blk_frozen HD3.out.blk
    obtain ⟨k0, k1, k2, k3, k4, k5⟩ := feed_cells HD3.out.blk
    obtain ⟨U, HU⟩ : ∃ U, Hid (((w3.setCell ⟨w1.heap.size, 1, none⟩ (.int .i64 hl)).setCell ⟨w1.heap.size, 2, none⟩ (.int .i64 hd)).setCell ⟨w1.heap.size, 3, none⟩ (.int .i64 ht) = U) := ⟨_, rfl⟩
    have HBU : Hid (Below (w.heap.size + 1) w3 U) := by rw [← HU.out]; exact (((Below.refl _ w3).setCell (p := ⟨w1.heap.size, 1, none⟩) hz1 _).setCell (p := ⟨w1.heap.size, 2, none⟩) hz1 _).setCell (p := ⟨w1.heap.size, 3, none⟩) hz1 _
    have KRU : Hid (Blk U w.heap.size 28 (feedC 0 0 0 0 none 0 0 none 0 0)) := KR3.out.below HBU.out (by omega)
    have HDU : Hid (Fd U (w.heap.size + 1) w1.heap.size pb hl hd ht (some ⟨g1, 0, none⟩) 0 (some ⟨g2, 0, none⟩) 0 [] []) := by
      rw [← HU.out]
      have hne : ∀ i, i ≠ w1.heap.size → (((w3.setCell ⟨w1.heap.size, 1, none⟩ (.int .i64 hl)).setCell ⟨w1.heap.size, 2, none⟩ (.int .i64 hd)).setCell ⟨w1.heap.size, 3, none⟩ (.int .i64 ht)).heap[i]? = w3.heap[i]? := fun i hi => by
        rw [Below.heap_setCell _ ⟨w1.heap.size, 3, none⟩ _ i hi, Below.heap_setCell _ ⟨w1.heap.size, 2, none⟩ _ i hi, Below.heap_setCell _ ⟨w1.heap.size, 1, none⟩ _ i hi]
      exact ⟨owns_block HD3.out.strs fun x hx => hne x (strs_ne_blk HD3.out.strs HD3.out.blk x hx), ownb_block HD3.out.bits fun x hx => hne x (bits_ne_blk HD3.out.bits HD3.out.blk x hx), ((HD3.out.blk.setOwn 1 _).setOwn 2 _).setOwn 3 _, HD3.out.big⟩
    have HRU : Hid (Rd U B g A len cap q) := (HR.out.then_ HB3.out hgw).then_ HBU.out (by omega)
    have HGU : Hid (w.grownBy U (some g)) := grown_then (grown_of_below HB3.out _) (HBU.out.mono (by omega))
    have HIU : Hid (StrsAt U w.heap.size A0 b0) := (HI.out.below HB3.out (Nat.le_refl _)).below HBU.out (by omega)
    clear hb3
    go_wp2_with fail
    rw [HU.out]
    clear k0 k1 k2 k3 k4 k5 kf3
    go_loopw [9] (fun i w' => ∃ (k c1 c2 : Nat) (X1 X2 : Option Addr) (bs : List ByteArray) (hs : List Bool), k ≤ n ∧ i = .int .i64 (k : Int) ∧ Hid (bs.length = k) ∧ Hid (hs.length = k) ∧ Hid (Fit bs) ∧ Hid (Fd w' (w.heap.size + 1) w1.heap.size pb hl hd ht X1 c1 X2 c2 bs hs) ∧ Hid (Blk w' w.heap.size 28 (feedC 0 0 0 0 none 0 0 none 0 0)) ∧ Hid (Rd w' B g A len cap (q + k)) ∧ Hid (w.grownBy w' (some g)) ∧ Hid (StrsAt w' w.heap.size A0 b0)) (fun i _ => n - (intOf i).toNat)
    case atStart => exact ⟨0, 0, 0, _, _, [], [], Nat.zero_le _, rfl, rfl, rfl, fun k => Nat.zero_le _, HDU, KRU, HRU, HGU, HIU⟩
    case round =>
      obtain ⟨k, c1, c2, X1, X2, bs, hs, hk, rfl, HL1, HL2, HFT, HDr, KRr, HRr, HGr, HIr⟩ := hrel
      by_cases hlt : k < n
      · have hlz : k < b0.length := by rw [HN.out]; exact hlt
        have hki : (k : Int) < (n : Int) := by omega
        have hk0 : (0 : Int) ≤ (k : Int) := by omega
        have hkd : decide (k < n) = true := by simp [hlt]
        have hkD := HDr.out.blk
        rw [HL1.out, HL2.out] at hkD
        obtain ⟨k0, k1, k2, k3, k4, k5⟩ := feed_cells hkD
        have HKD := Lib.hid hkD
        clear hkD
        go_wp2_with fail
        refine (pick_any 3 HRr.out (by omega) (by omega) (by omega)).mono ?_
        rintro e w5 ⟨x, hx, rfl, hR5, hg5, hz5⟩
        have HD5 := Lib.hid (HDr.out.picked hg5 (by omega))
        have HR5 := Lib.hid hR5
        have HG5 := Lib.hid (World.grownBy.trans HGr.out hg5)
        have HI5 := Lib.hid (HIr.out.picked (Nat.le_trans (Nat.le_refl _) (by have := HGr.out.size; omega)) HRr.out hg5)
        have KR5 := Lib.hid (KRr.out.grown hg5 (fun e => by injection e with e; omega))
        have hwz : w.heap.size + 1 ≤ w5.heap.size := by have h1 := KR5.out.lt; omega
        have hkD5 := HD5.out.blk
        rw [HL1.out, HL2.out] at hkD5
        clear k0 k1 k2 k3 k4 k5 hR5 hg5 hz5
        obtain ⟨k0, k1, k2, k3, k4, k5⟩ := feed_cells hkD5
        clear hkD5
        obtain ⟨hv, HHV⟩ : ∃ b : Bool, Hid (decide ((0 : Int) < (x : Int)) = b) := ⟨_, rfl⟩
        by_cases hxp : 0 < x
        · have hxv : decide ((0 : Int) < (x : Int)) = true := by simp; omega
          have hxv2 : decide (0 < x) = true := by simp; omega
          go_wp2_with (first
            | (at_builtin
               refine wpList_app_bools rfl (.tmp 39) (.tmp 41) rfl _ (w.heap.size + 1) X2 c2 hs (by rw [HL2.out]; rfl) _ _ [true] rfl (HD5.out.bits.alloc _) (one_newB _ _) (by rw [HL2.out]; simp; omega) (by simp; omega) (by simp) ?_
               intro v w6 hA
               obtain ⟨X2', c2', rfl, hk6, hD6, hb6⟩ := HD5.out.bit hwz _ _ hA
               rw [HL1.out, HL2.out] at hk6
               obtain ⟨m0, m1, m2, m3, m4, m5⟩ := feed_cells hk6
               have mf := blk_frozen hk6
               have HD6 := Lib.hid hD6
               have HB6 := Lib.hid hb6
               rw [HL2.out] at HD6 HB6
               rw [show hs.length + 1 = k + 1 by rw [HL2.out]]
               clear hA hk6 hD6 hb6))
          obtain ⟨Z, HZ⟩ : ∃ Z, Hid (w6.setCell ⟨w1.heap.size, 5, none⟩ (.slice X2' (k + 1) c2') = Z) := ⟨_, rfl⟩
          rw [HZ.out] at HD6 HB6 ⊢
          clear m0 m1 m2 m3 m4 m5 mf k0 k1 k2 k3 k4 k5
          have hkZ := HD6.out.blk
          rw [HL1.out, List.length_append, HL2.out] at hkZ
          obtain ⟨k0, k1, k2, k3, k4, k5⟩ := feed_cells hkZ
          have kf := blk_frozen hkZ
          have hgz : w1.heap.size < Z.heap.size := hkZ.lt
          clear hkZ
          have hwZ : w.heap.size + 1 ≤ Z.heap.size := Nat.le_trans hwz HB6.out.size
          have HIZ : Hid (StrsAt Z w.heap.size A0 b0) := HI5.out.below HB6.out (by omega)
          obtain ⟨bb, oo, rfl, hbb, hcb⟩ := HIZ.out (by rw [HN.out]; omega)
          have hck := hcb k hlz
          have hts : (sth b0 k).size ≤ 8 := HSHT.out k hlz
          obtain ⟨t, HT⟩ : ∃ t, Hid (sth b0 k = t) := ⟨_, rfl⟩
          rw [HT.out] at hck hts
          clear hcb hlz
          refine wp_region_held_drew (S := (fun w' => w'.cell? ⟨bb, oo + k, none⟩ = some (.string t))) (by kernel_rfl) (hck) (fun hHeld => ?_)
          refine wpAnyH_take (i := 0) (v := ?zv8) rfl (by kernel_rfl) (by kernel_rfl) (by kernel_rfl) (fun _ _ _ h => h) (Or.inl ⟨by kernel_rfl, ?zy8⟩) (by assumption) ?zr8
          case zy8 => (intro w hSw; (try dsimp only at hSw); go_simp; try with_reducible rfl)
          change wpAnyH _ _ _ _ _ _ _ (Act.put _ (some 45) _) _
          simp only [Act.put, List.setIfInBounds_toArray, List.set_cons_zero, List.set_cons_succ]
          refine wpAnyH_take (i := 2) (v := ?zv9) rfl (by kernel_rfl) (by kernel_rfl) (by kernel_rfl) (fun _ _ _ h => h) (Or.inl ⟨by kernel_rfl, ?zy9⟩) (by assumption) ?zr9
          case zy9 => (intro w hSw; (try dsimp only at hSw); go_simp; try with_reducible rfl)
          change wpAnyH _ _ _ _ _ _ _ (Act.put _ (some 47) _) _
          simp only [Act.put, List.setIfInBounds_toArray, List.set_cons_zero, List.set_cons_succ]
          refine wpAnyH_take (i := 3) (v := ?zv10) rfl (by kernel_rfl) (by kernel_rfl) (by kernel_rfl) (fun _ _ _ h => h) (Or.inl ⟨by kernel_rfl, ?zy10⟩) (by assumption) ?zr10
          case zy10 => (intro w hSw; (try dsimp only at hSw); go_simp; try with_reducible rfl)
          change wpAnyH _ _ _ _ _ _ _ (Act.put _ (some 48) _) _
          simp only [Act.put, List.setIfInBounds_toArray, List.set_cons_zero, List.set_cons_succ]
          refine wpAnyH_take (i := 4) (v := ?zv11) rfl (by kernel_rfl) (by kernel_rfl) (by kernel_rfl) (fun _ _ _ h => h) (Or.inl ⟨by kernel_rfl, ?zy11⟩) (by assumption) ?zr11
          case zy11 => (intro w hSw; (try dsimp only at hSw); go_simp; try with_reducible rfl)
          change wpAnyH _ _ _ _ _ _ _ (Act.put _ (some 49) _) _
          simp only [Act.put, List.setIfInBounds_toArray, List.set_cons_zero, List.set_cons_succ]
          refine wpAnyH_take (i := 5) (v := ?zv12) rfl (by kernel_rfl) (by kernel_rfl) (by kernel_rfl) (fun _ _ _ h => h) (Or.inl ⟨by kernel_rfl, ?zy12⟩) (by assumption) ?zr12
          case zy12 => (intro w hSw; (try dsimp only at hSw); go_simp; try with_reducible rfl)
          change wpAnyH _ _ _ _ _ _ _ (Act.put _ (some 50) _) _
          simp only [Act.put, List.setIfInBounds_toArray, List.set_cons_zero, List.set_cons_succ]
          refine wpAnyH_ready (rs := [1, 6]) (by kernel_rfl) (by simp) (AllReadyH.cons rfl (fun K hK => ?zo1) (AllReadyH.cons rfl (fun K hK => ?zo2) AllReadyH.nil))
          case zo1 =>
            go_simp
            refine hK.out _ _ (hck) (fun hHeld => ?_)
            clear hK K
            (try simp only [Act.put, List.setIfInBounds_toArray, List.set_cons_zero, List.set_cons_succ])
            refine wpAnyH_ready (rs := [6]) (by kernel_rfl) (by simp) (AllReadyH.cons rfl (fun K hK => ?_) AllReadyH.nil)
            go_simp
            refine hK.out _ _ ((World.cell?_alloc_lt _ _ _ (by show bb < Z.heap.size; omega)).trans hck) (fun hHeld => ?_)
            clear hK K
            (try simp only [Act.put, List.setIfInBounds_toArray, List.set_cons_zero, List.set_cons_succ])
            refine wpAnyH_ready (rs := [7]) (by kernel_rfl) (by simp) (AllReadyH.cons rfl (fun K hK => ?_) AllReadyH.nil)
            refine step_app_strs rfl (.tmp 46) (.tmp 51) rfl _ (w.heap.size + 1) X1 c1 bs (by rw [HL1.out]; rfl) _ _ [t] rfl (HD6.out.drew.strs.alloc _) (one_newS _ _) (by rw [HL1.out]; simp; omega) (by simp; omega) (by simp) ?_
            intro v w8 hA
            obtain ⟨X1', c1', rfl, hk8, hD8, hb8⟩ := HD6.out.drew.text hwZ _ _ hA
            rw [HL1.out, List.length_append, HL2.out] at hk8
            obtain ⟨m0, m1, m2, m3, m4, m5⟩ := feed_cells hk8
            have mf := blk_frozen hk8
            have HD8 := Lib.hid hD8
            have HB8 : Hid (Below (w.heap.size + 1) Z (w8.setCell ⟨w1.heap.size, 4, none⟩ (.slice X1' (bs.length + 1) c1'))) := below_drew_l hb8
            have hck8 : w8.cell? ⟨bb, oo + k, none⟩ = some (.string t) := by
              have h8 := hA.below
              exact (h8.cell (p := ⟨bb, oo + k, none⟩) (by show bb < (w.heap.size + 1); omega)).trans ((World.cell?_alloc_lt _ _ _ (by show bb < Z.heap.size; omega)).trans hck)
            rw [HL1.out] at HD8 HB8
            rw [show bs.length + 1 = k + 1 by rw [HL1.out]]
            clear hA hk8 hD8 hb8
            refine hK.out _ _ (hck8) (fun hHeld => ?_)
            clear hK K
            change wpAnyH _ _ _ _ _ _ _ (Act.put _ (some 52) _) _
            simp only [Act.put, List.setIfInBounds_toArray, List.set_cons_zero, List.set_cons_succ]
            refine wpAnyH_take (i := 8) (v := ?zv13) rfl (by kernel_rfl) (by kernel_rfl) (by kernel_rfl) (fun _ _ _ h => h) (Or.inl ⟨by kernel_rfl, ?zy13⟩) (by assumption) ?zr13
            case zy13 => (intro w hSw; (try dsimp only at hSw); go_simp; try with_reducible rfl)
            change wpAnyH _ _ _ _ _ _ _ (Act.put _ (some 53) _) _
            simp only [Act.put, List.setIfInBounds_toArray, List.set_cons_zero, List.set_cons_succ]
            refine wpAnyH_ready (rs := [9]) (by kernel_rfl) (by simp) (AllReadyH.cons rfl (fun K hK => ?_) AllReadyH.nil)
            go_simp
            refine hK.out _ _ ((World.cell?_setCell_other _ _ _ _ (by intro e; injection e with e; omega)).trans hck8) (fun hHeld => ?_)
            clear hK K
            (try simp only [Act.put])
            refine wpAnyH_done (by kernel_rfl) ?_ _
            obtain ⟨Q, HQ⟩ : ∃ Q, Hid (w8.setCell ⟨w1.heap.size, 4, none⟩ (.slice X1' (k + 1) c1') = Q) := ⟨_, rfl⟩
            rw [HQ.out] at HD8 HB8 ⊢
            have KRn : Hid (Blk Q w.heap.size 28 (feedC 0 0 0 0 none 0 0 none 0 0)) := (KR5.out.below HB6.out (by omega)).below HB8.out (by omega)
            have HL1n : Hid ((bs ++ [t]).length = k + 1) := by show _ = _; rw [List.length_append, HL1.out]; rfl
            have HL2n : Hid ((hs ++ [true]).length = k + 1) := by show _ = _; rw [List.length_append, HL2.out]; rfl
            have HFn : Hid (Fit (bs ++ [t])) := HFT.out.snoc (by unfold maxLen; omega)
            have HRn : Hid (Rd Q B g A len cap (q + (k + 1))) := (HR5.out.then_ HB6.out (by omega)).then_ HB8.out (by omega)
            have HGn : Hid (w.grownBy Q (some g)) := grown_then (grown_then HG5.out (HB6.out.mono (by omega))) (HB8.out.mono (by omega))
            have HIn : Hid (StrsAt Q w.heap.size _ b0) := HIZ.out.below HB8.out (by omega)
            go_wp2
            go_roundw
            case rel => exact ⟨k + 1, c1', c2', X1', X2', _, _, by omega, by go_num, HL1n, HL2n, HFn, HD8, KRn, HRn, HGn, HIn⟩
            case measure => simp [intOf]; omega
          case zo2 =>
            go_simp
            refine hK.out _ _ ((World.cell?_alloc_lt _ _ _ (by show bb < Z.heap.size; omega)).trans hck) (fun hHeld => ?_)
            clear hK K
            (try simp only [Act.put, List.setIfInBounds_toArray, List.set_cons_zero, List.set_cons_succ])
            refine wpAnyH_ready (rs := [1]) (by kernel_rfl) (by simp) (AllReadyH.cons rfl (fun K hK => ?_) AllReadyH.nil)
            go_simp
            refine hK.out _ _ ((World.cell?_alloc_lt _ _ _ (by show bb < Z.heap.size; omega)).trans hck) (fun hHeld => ?_)
            clear hK K
            (try simp only [Act.put, List.setIfInBounds_toArray, List.set_cons_zero, List.set_cons_succ])
            refine wpAnyH_ready (rs := [7]) (by kernel_rfl) (by simp) (AllReadyH.cons rfl (fun K hK => ?_) AllReadyH.nil)
            refine step_app_strs rfl (.tmp 46) (.tmp 51) rfl _ (w.heap.size + 1) X1 c1 bs (by rw [HL1.out]; rfl) _ _ [t] rfl (HD6.out.drew.strs.alloc _) (one_newS _ _) (by rw [HL1.out]; simp; omega) (by simp; omega) (by simp) ?_
            intro v w8 hA
            obtain ⟨X1', c1', rfl, hk8, hD8, hb8⟩ := HD6.out.drew.text hwZ _ _ hA
            rw [HL1.out, List.length_append, HL2.out] at hk8
            obtain ⟨m0, m1, m2, m3, m4, m5⟩ := feed_cells hk8
            have mf := blk_frozen hk8
            have HD8 := Lib.hid hD8
            have HB8 : Hid (Below (w.heap.size + 1) Z (w8.setCell ⟨w1.heap.size, 4, none⟩ (.slice X1' (bs.length + 1) c1'))) := below_drew_l hb8
            have hck8 : w8.cell? ⟨bb, oo + k, none⟩ = some (.string t) := by
              have h8 := hA.below
              exact (h8.cell (p := ⟨bb, oo + k, none⟩) (by show bb < (w.heap.size + 1); omega)).trans ((World.cell?_alloc_lt _ _ _ (by show bb < Z.heap.size; omega)).trans hck)
            rw [HL1.out] at HD8 HB8
            rw [show bs.length + 1 = k + 1 by rw [HL1.out]]
            clear hA hk8 hD8 hb8
            refine hK.out _ _ (hck8) (fun hHeld => ?_)
            clear hK K
            change wpAnyH _ _ _ _ _ _ _ (Act.put _ (some 52) _) _
            simp only [Act.put, List.setIfInBounds_toArray, List.set_cons_zero, List.set_cons_succ]
            refine wpAnyH_take (i := 8) (v := ?zv14) rfl (by kernel_rfl) (by kernel_rfl) (by kernel_rfl) (fun _ _ _ h => h) (Or.inl ⟨by kernel_rfl, ?zy14⟩) (by assumption) ?zr14
            case zy14 => (intro w hSw; (try dsimp only at hSw); go_simp; try with_reducible rfl)
            change wpAnyH _ _ _ _ _ _ _ (Act.put _ (some 53) _) _
            simp only [Act.put, List.setIfInBounds_toArray, List.set_cons_zero, List.set_cons_succ]
            refine wpAnyH_ready (rs := [9]) (by kernel_rfl) (by simp) (AllReadyH.cons rfl (fun K hK => ?_) AllReadyH.nil)
            go_simp
            refine hK.out _ _ ((World.cell?_setCell_other _ _ _ _ (by intro e; injection e with e; omega)).trans hck8) (fun hHeld => ?_)
            clear hK K
            (try simp only [Act.put])
            refine wpAnyH_done (by kernel_rfl) ?_ _
            obtain ⟨Q, HQ⟩ : ∃ Q, Hid (w8.setCell ⟨w1.heap.size, 4, none⟩ (.slice X1' (k + 1) c1') = Q) := ⟨_, rfl⟩
            rw [HQ.out] at HD8 HB8 ⊢
            have KRn : Hid (Blk Q w.heap.size 28 (feedC 0 0 0 0 none 0 0 none 0 0)) := (KR5.out.below HB6.out (by omega)).below HB8.out (by omega)
            have HL1n : Hid ((bs ++ [t]).length = k + 1) := by show _ = _; rw [List.length_append, HL1.out]; rfl
            have HL2n : Hid ((hs ++ [true]).length = k + 1) := by show _ = _; rw [List.length_append, HL2.out]; rfl
            have HFn : Hid (Fit (bs ++ [t])) := HFT.out.snoc (by unfold maxLen; omega)
            have HRn : Hid (Rd Q B g A len cap (q + (k + 1))) := (HR5.out.then_ HB6.out (by omega)).then_ HB8.out (by omega)
            have HGn : Hid (w.grownBy Q (some g)) := grown_then (grown_then HG5.out (HB6.out.mono (by omega))) (HB8.out.mono (by omega))
            have HIn : Hid (StrsAt Q w.heap.size _ b0) := HIZ.out.below HB8.out (by omega)
            go_wp2
            go_roundw
            case rel => exact ⟨k + 1, c1', c2', X1', X2', _, _, by omega, by go_num, HL1n, HL2n, HFn, HD8, KRn, HRn, HGn, HIn⟩
            case measure => simp [intOf]; omega
        · have hxv : decide ((0 : Int) < (x : Int)) = false := by simp; omega
          have hxv2 : decide (0 < x) = false := by simp; omega
          go_wp2_with (first
            | (at_builtin
               refine wpList_app_bools rfl (.tmp 39) (.tmp 41) rfl _ (w.heap.size + 1) X2 c2 hs (by rw [HL2.out]; rfl) _ _ [false] rfl (HD5.out.bits.alloc _) (one_newB _ _) (by rw [HL2.out]; simp; omega) (by simp; omega) (by simp) ?_
               intro v w6 hA
               obtain ⟨X2', c2', rfl, hk6, hD6, hb6⟩ := HD5.out.bit hwz _ _ hA
               rw [HL1.out, HL2.out] at hk6
               obtain ⟨m0, m1, m2, m3, m4, m5⟩ := feed_cells hk6
               have mf := blk_frozen hk6
               have HD6 := Lib.hid hD6
               have HB6 := Lib.hid hb6
               rw [HL2.out] at HD6 HB6
               rw [show hs.length + 1 = k + 1 by rw [HL2.out]]
               clear hA hk6 hD6 hb6)
            | (at_builtin
               obtain ⟨Z, HZ⟩ : ∃ Z, Hid (w6.setCell ⟨w1.heap.size, 5, none⟩ (.slice X2' (k + 1) c2') = Z) := ⟨_, rfl⟩
               rw [HZ.out] at HD6 HB6 ⊢
               have hkZ := HD6.out.blk
               rw [HL1.out, List.length_append, HL2.out] at hkZ
               have hwZ : w.heap.size + 1 ≤ Z.heap.size := Nat.le_trans hwz HB6.out.size
               have HIZ : Hid (StrsAt Z w.heap.size A0 b0) := HI5.out.below HB6.out (by omega)
               have HZs : Hid (Z.heap.size = w6.heap.size) := by show _ = _; rw [← HZ.out]; simp
               have HON : Hid (StrsAt (Z.alloc (.cells #[.string ByteArray.empty] 9)) (Z.alloc (.cells #[.string ByteArray.empty] 9)).heap.size (some ⟨w6.heap.size, 0, none⟩) [ByteArray.empty]) := by have h := one_newS Z ByteArray.empty; rw [HZs.out] at h; exact h
               refine wpList_app_strs rfl (.tmp 55) (.tmp 56) rfl _ (w.heap.size + 1) X1 c1 bs (by rw [HL1.out]; rfl) _ _ [ByteArray.empty] rfl (HD6.out.strs.alloc _) HON.out (by rw [HL1.out]; simp; omega) (by simp; omega) (by simp) ?_
               intro v w8 hA
               obtain ⟨X1', c1', rfl, hk8, hD8, hb8⟩ := HD6.out.text hwZ _ _ hA
               rw [HL1.out, List.length_append, HL2.out] at hk8
               clear m0 m1 m2 m3 m4 m5 mf
               obtain ⟨m0, m1, m2, m3, m4, m5⟩ := feed_cells hk8
               have mf := blk_frozen hk8
               have HD8 := Lib.hid hD8
               have HB8 := Lib.hid hb8
               rw [HL1.out] at HD8 HB8
               rw [show bs.length + 1 = k + 1 by rw [HL1.out]]
               clear hA hk8 hD8 hb8 hkZ))
          obtain ⟨Q, HQ⟩ : ∃ Q, Hid (w8.setCell ⟨w1.heap.size, 4, none⟩ (.slice X1' (k + 1) c1') = Q) := ⟨_, rfl⟩
          rw [HQ.out] at HD8 HB8 ⊢
          have KRn : Hid (Blk Q w.heap.size 28 (feedC 0 0 0 0 none 0 0 none 0 0)) := (KR5.out.below HB6.out (by omega)).below HB8.out (by omega)
          have HL1n : Hid ((bs ++ [ByteArray.empty]).length = k + 1) := by show _ = _; rw [List.length_append, HL1.out]; rfl
          have HL2n : Hid ((hs ++ [false]).length = k + 1) := by show _ = _; rw [List.length_append, HL2.out]; rfl
          have HFn : Hid (Fit (bs ++ [ByteArray.empty])) := HFT.out.snoc (Nat.zero_le _)
          have HRn : Hid (Rd Q B g A len cap (q + (k + 1))) := (HR5.out.then_ HB6.out (by omega)).then_ HB8.out (by omega)
          have HGn : Hid (w.grownBy Q (some g)) := grown_then (grown_then HG5.out (HB6.out.mono (by omega))) (HB8.out.mono (by omega))
          have HIn : Hid (StrsAt Q w.heap.size _ b0) := HIZ.out.below HB8.out (by omega)
          go_roundw
          case rel => exact ⟨k + 1, c1', c2', X1', X2', _, _, by omega, by go_num, HL1n, HL2n, HFn, HD8, KRn, HRn, HGn, HIn⟩
          case measure => simp [intOf]; omega
      · have hkn : k = n := by omega
        have hkd : decide (k < n) = false := by simp; omega
        have hki : ¬ (k : Int) < (n : Int) := by omega
        have hkD := HDr.out.blk
        rw [HL1.out, HL2.out] at hkD
        obtain ⟨k0, k1, k2, k3, k4, k5⟩ := feed_cells hkD
        obtain ⟨r0, r1, r2, r3, r4, r5⟩ := feed_cells KRr.out
        have rf := blk_frozen KRr.out
        have hne : w1.heap.size ≠ w.heap.size := by omega
        clear hkD hkn
        go_wp2
        obtain ⟨Y, HY⟩ : ∃ Y, Hid (((((((wr.setCell ⟨w.heap.size, 0, none⟩ (.int .i64 pb)).setCell ⟨w.heap.size, 1, none⟩ (.int .i64 hl)).setCell ⟨w.heap.size, 2, none⟩ (.int .i64 hd)).setCell ⟨w.heap.size, 3, none⟩ (.int .i64 ht)).setCell ⟨w.heap.size, 4, none⟩ (.slice X1 k c1)).setCell ⟨w.heap.size, 5, none⟩ (.slice X2 k c2)) = Y) := ⟨_, rfl⟩
        have HBY : Hid (Below w.heap.size wr Y) := by rw [← HY.out]; exact below_six (Below.refl _ _) (Nat.le_refl _) _ _ _ _ _ _
        have KRY : Hid (Blk Y w.heap.size 28 (feedC pb hl hd ht X1 k c1 X2 k c2)) := by rw [← HY.out]; exact blk_six KRr.out _ _ _ _ _ _
        have hk : ∀ i, (w.heap.size + 1) ≤ i → Y.heap[i]? = wr.heap[i]? := fun i hi => by
          rw [← HY.out]
          rw [Below.heap_setCell _ ⟨w.heap.size, 5, none⟩ _ i (by show i ≠ w.heap.size; omega), Below.heap_setCell _ ⟨w.heap.size, 4, none⟩ _ i (by show i ≠ w.heap.size; omega), Below.heap_setCell _ ⟨w.heap.size, 3, none⟩ _ i (by show i ≠ w.heap.size; omega), Below.heap_setCell _ ⟨w.heap.size, 2, none⟩ _ i (by show i ≠ w.heap.size; omega), Below.heap_setCell _ ⟨w.heap.size, 1, none⟩ _ i (by show i ≠ w.heap.size; omega), Below.heap_setCell _ ⟨w.heap.size, 0, none⟩ _ i (by show i ≠ w.heap.size; omega)]
        have hFY := HDr.out.keep (w' := Y) fun i hi _ => hk i hi
        have hown : OwnFeed Y w.heap.size X1 c1 X2 c2 bs hs := ⟨hFY.strs.base_le (by omega), hFY.bits.base_le (by omega), HFT.out⟩
        rw [HY.out]
        clear hk hFY
        obtain ⟨z0, z1, z2, z3, z4, z5⟩ := feed_cells KRY.out
        exact bodyPost_ret (v := feedV pb hl hd ht X1 k c1 X2 k c2) (by simp [results, Tryd.results30, go_sem, z0, z1, z2, z3, z4, z5]) rfl ⟨_, _, _, _, X1, c1, X2, c2, bs, hs, _, by rw [HL1.out, HL2.out], hown, by rw [HL1.out]; omega, by rw [HL2.out]; omega, by omega, HZS.out, HRr.out.then_ HBY.out hgw, grown_then HGr.out HBY.out⟩

end Go.Proofs.YtgklkceoafohmaaDoor
