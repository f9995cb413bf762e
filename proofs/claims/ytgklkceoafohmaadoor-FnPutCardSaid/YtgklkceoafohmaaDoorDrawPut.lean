/- The contract of DrawFeedPut: a feed, an index, a block and a proof in memory of the call's own; nothing that was there is changed. Condition: the code's bytes lie in memory. -/
import Derived.Test.YtgklkceoafohmaaDoorDrawFeed
import Derived.Test.YtgklkceoafohmaaDoorDrawBend2
import Derived.Test.YtgklkceoafohmaaDoorBaseC
import Derived.Test.YtgklkceoafohmaaDoorFeedProve
import Derived.Test.YtgklkceoafohmaaDoorProofLaws
import Derived.Deep.DeepCutAuto
namespace Go.Proofs.YtgklkceoafohmaaDoor
open Go.RowKit
set_option linter.unusedVariables false

def PutDrawn (w : World) (e : Ending) (w' : World) : Prop :=
  ∃ (p l d s : Int) (A1 : Option Addr) (c1 : Nat) (A2 : Option Addr) (c2 : Nat) (bs : List ByteArray) (hs : List Bool) (i : Int) (t : ByteArray) (X : Option Addr) (cz : Nat) (zs : List Int), e = .returned (.tuple #[feedV p l d s A1 bs.length c1 A2 hs.length c2, .int .i64 i, .string t, .slice X zs.length cz]) ∧ OwnFeed w' w.heap.size A1 c1 A2 c2 bs hs ∧ bs.length ≤ 16 ∧ hs.length ≤ 17 ∧ t.size ≤ 10 ∧ -1 ≤ i ∧ i ≤ 17 ∧ OwnInts w' w.heap.size X cz zs ∧ zs.length ≤ 7 ∧ Below w.heap.size w w'
/-- Where the draw stands: the reader (block w.heap.size + 1), the result's block, the feed's block, the blocks' texts and the feed. -/
structure PS (w : World) (A : Option Addr) (len cap : Nat) (gf : Nat) (X0 : Option Addr) (cX : Nat) (b0 : List ByteArray) (bX : Nat) (fp fl fd fs : Int) (Y1 : Option Addr) (e1 : Nat) (Y2 : Option Addr) (e2 : Nat) (bs : List ByteArray) (hs : List Bool) (mb mh : Nat) (q : Nat) (wx : World) : Prop where
  rd : Rd wx (w.heap.size + 1) (w.heap.size + 1) A len cap q
  kr : Blk wx w.heap.size 28 (feedC 0 0 0 0 none 0 0 none 0 0)
  kf : Blk wx gf 28 (feedC fp fl fd fs Y1 mb e1 Y2 mh e2)
  txt : OwnStrs wx bX X0 cX b0
  own : OwnFeed wx (w.heap.size + 1 + 1) Y1 e1 Y2 e2 bs hs
  below : Below w.heap.size w wx
  lt : w.heap.size + 1 < wx.heap.size
  gfR : w.heap.size + 1 < gf
  bXR : w.heap.size + 1 < bX
section
variable {w w1 w2 : World} {A : Option Addr} {len cap : Nat} {gf : Nat} {X0 : Option Addr} {cX : Nat} {b0 : List ByteArray} {bX : Nat} {fp fl fd fs : Int} {Y1 : Option Addr} {e1 : Nat} {Y2 : Option Addr} {e2 : Nat} {bs : List ByteArray} {hs : List Bool} {mb mh : Nat} {q q' : Nat}
theorem PS.pick (h : PS w A len cap gf X0 cX b0 bX fp fl fd fs Y1 e1 Y2 e2 bs hs mb mh q w1) (hR : Rd w2 (w.heap.size + 1) (w.heap.size + 1) A len cap q') (hg : w1.grownBy w2 (some (w.heap.size + 1))) : PS w A len cap gf X0 cX b0 bX fp fl fd fs Y1 e1 Y2 e2 bs hs mb mh q' w2 :=
  ⟨hR, h.kr.grown hg (fun e => by injection e with e; omega), h.kf.grown hg (fun e => by injection e with e; have := h.gfR; omega), owns_keep h.txt hg (fun k hk => by injection hk with hk; have := h.bXR; omega),
    ⟨owns_keep h.own.strs hg (fun k hk => by injection hk with hk; omega), ownbs_keep h.own.bits hg (fun k hk => by injection hk with hk; omega), h.own.fit⟩, h.below.grown hg (by have := h.lt; omega) (fun k hk => by injection hk with hk; omega), by have := h.lt; have := hg.size; omega, h.gfR, h.bXR⟩
theorem PS.then_ (h : PS w A len cap gf X0 cX b0 bX fp fl fd fs Y1 e1 Y2 e2 bs hs mb mh q w1) (hb : Below w1.heap.size w1 w2) : PS w A len cap gf X0 cX b0 bX fp fl fd fs Y1 e1 Y2 e2 bs hs mb mh q w2 :=
  ⟨h.rd.grown (grown_of_below hb none) (fun k hk => by cases hk), h.kr.below hb h.kr.lt, h.kf.below hb h.kf.lt, h.txt.below hb, h.own.below hb, h.below.trans (hb.mono (by have := h.lt; omega)), by have := h.lt; have := hb.size; omega, h.gfR, h.bXR⟩
theorem PS.drew (h : PS w A len cap gf X0 cX b0 bX fp fl fd fs Y1 e1 Y2 e2 bs hs mb mh q w1) : PS w A len cap gf X0 cX b0 bX fp fl fd fs Y1 e1 Y2 e2 bs hs mb mh q w1.drew :=
  ⟨h.rd.drew, h.kr, h.kf, h.txt, ⟨h.own.strs, h.own.bits, h.own.fit⟩, below_drew h.below, h.lt, h.gfR, h.bXR⟩
end
theorem ints_six {W : World} {base g cap : Nat} {A : Option Addr} {zs : List Int} (h : OwnInts W base A cap zs) (hg : g < base) (v0 v1 v2 v3 v4 v5 : Value) : OwnInts ((((((W.setCell ⟨g, 0, none⟩ v0).setCell ⟨g, 1, none⟩ v1).setCell ⟨g, 2, none⟩ v2).setCell ⟨g, 3, none⟩ v3).setCell ⟨g, 4, none⟩ v4).setCell ⟨g, 5, none⟩ v5) base A cap zs := by
  have hn : ∀ i, i ≠ g → ((((((W.setCell ⟨g, 0, none⟩ v0).setCell ⟨g, 1, none⟩ v1).setCell ⟨g, 2, none⟩ v2).setCell ⟨g, 3, none⟩ v3).setCell ⟨g, 4, none⟩ v4).setCell ⟨g, 5, none⟩ v5).heap[i]? = W.heap[i]? := fun i hi => by
    rw [Below.heap_setCell _ ⟨g, 5, none⟩ _ i hi, Below.heap_setCell _ ⟨g, 4, none⟩ _ i hi, Below.heap_setCell _ ⟨g, 3, none⟩ _ i hi, Below.heap_setCell _ ⟨g, 2, none⟩ _ i hi, Below.heap_setCell _ ⟨g, 1, none⟩ _ i hi, Below.heap_setCell _ ⟨g, 0, none⟩ _ i hi]
  refine ⟨h.1, ?_⟩
  rcases h.2 with h0 | ⟨x, c, cur, hv, hb, hxb, hr⟩
  · exact .inl h0
  · exact .inr ⟨x, c, cur, hv, hb, (hn x (by omega)).trans hxb, hr⟩

theorem kf_six {W : World} {g gf : Nat} {t : TypeId} {cs : Array Value} {v0 v1 v2 v3 v4 v5 : Value} (h : Blk W gf t cs) (hne : g + 1 < gf) : Blk ((((((W.setCell ⟨g, 0, none⟩ v0).setCell ⟨g, 1, none⟩ v1).setCell ⟨g, 2, none⟩ v2).setCell ⟨g, 3, none⟩ v3).setCell ⟨g, 4, none⟩ v4).setCell ⟨g, 5, none⟩ v5) gf t cs :=
  (((((h.setOther (p := ⟨g, 0, none⟩) (by show g ≠ gf; omega) v0).setOther (p := ⟨g, 1, none⟩) (by show g ≠ gf; omega) v1).setOther (p := ⟨g, 2, none⟩) (by show g ≠ gf; omega) v2).setOther (p := ⟨g, 3, none⟩) (by show g ≠ gf; omega) v3).setOther (p := ⟨g, 4, none⟩) (by show g ≠ gf; omega) v4).setOther (p := ⟨g, 5, none⟩) (by show g ≠ gf; omega) v5


set_option maxHeartbeats 16000000 in
set_option maxRecDepth 100000 in
theorem drawFeedPut_any (A : Option Addr) (len cap : Nat) (w : World) (hI : In w A len cap) :
    Calls Tryd.prog 9 #[.slice A len cap] w (PutDrawn w) := by
  have HI := Lib.hid hI
  clear hI
  go_enter Tryd.func9, Tryd.ntmps9
  go_wp2_with fail
  refine (open_any A len cap _ (in_alloc HI.out _)).mono ?_
  rintro e w1 ⟨len', cap', rfl, hR1, hb1⟩
  simp only [World.size_alloc] at hR1 hb1 ⊢
  have HR1 := Lib.hid hR1
  have KR1 : Hid (Blk w1 w.heap.size 28 (feedC 0 0 0 0 none 0 0 none 0 0)) := (Blk.new w 28 (feedC 0 0 0 0 none 0 0 none 0 0)).below hb1 (by omega)
  have HB1 : Hid (Below w.heap.size w w1) := ((Below.refl _ w).alloc (Nat.le_refl _) _).trans (hb1.mono (by omega))
  have hg1 : w.heap.size + 1 < w1.heap.size := hR1.lt
  clear hR1 hb1
  go_wp2_with fail
  refine (drawgood_any HR1.out (by omega)).mono ?_
  rintro e w2 ⟨sec, q2, hs0, hs1, hq2, rfl, hR2, hg2⟩
  have HR2 := Lib.hid hR2
  have KR2 := Lib.hid (KR1.out.grown hg2 (fun e => by injection e with e; omega))
  have HB2 : Hid (Below w.heap.size w w2) := HB1.out.grown hg2 (by omega) (fun k hk => by injection hk with hk; omega)
  have hz2 : w1.heap.size ≤ w2.heap.size := hg2.size
  clear hR2 hg2
  go_wp2_with fail
  refine (drawblocks_any HR2.out (by omega)).mono ?_
  rintro e w3 ⟨X0, cX, b0, q3, rfl, hl0, hq3, hS3⟩
  have HS3 := Lib.hid hS3
  have KR3 := Lib.hid (KR2.out.grown hS3.grown (fun e => by injection e with e; omega))
  have HB3 : Hid (Below w.heap.size w w3) := HB2.out.grown hS3.grown (by omega) (fun k hk => by injection hk with hk; omega)
  have hz3 : w2.heap.size ≤ w3.heap.size := hS3.grown.size
  clear hS3
  obtain ⟨nb, HNB⟩ : ∃ nb, Hid (b0.length = nb) := ⟨_, rfl⟩
  have HSHT : Hid (Short b0) := fun k hk => by rw [sth_get b0 k hk]; exact HS3.out.short _ (List.getElem_mem hk)
  have CR := Lib.hid (drawreader_any HS3.out.rd (by omega) sec X0 cX b0 (by omega) (by omega) HS3.out.own.ints HS3.out.short hl0)
  rw [HNB.out] at hl0 CR ⊢
  go_wp2_with fail
  refine CR.out.mono ?_
  rintro e w4 ⟨p', l', d', s', Z1', c1', Z2', c2', b1', h1', q4, rfl, ho4, hb1, hh1, hq4, -, hR4, hg4⟩
  have KR4 := Lib.hid (KR3.out.grown hg4 (fun e => by injection e with e; omega))
  have HB4 : Hid (Below w.heap.size w w4) := HB3.out.grown hg4 (by omega) (fun k hk => by injection hk with hk; omega)
  have HS4 : Hid (OwnStrs w4 w2.heap.size X0 cX b0) := owns_keep HS3.out.own hg4 (fun k hk => by injection hk with hk; omega)
  have hz4 : w3.heap.size ≤ w4.heap.size := hg4.size
  have HO4 := Lib.hid ho4
  have HR4 := Lib.hid hR4
  clear ho4 hR4 hg4
  go_wp2_with fail
  refine (drawspoilt_any HR4.out (by omega) p' l' d' s' Z1' c1' Z2' c2' b1' h1' HO4.out.at_ (own_nil_cap HO4.out).1 (own_nil_cap HO4.out).2 hb1 hh1).mono ?_
  rintro e w6 ⟨fp, fl, fd, fs, Y1, e1, Y2, e2, bs, hs, q6, rfl, ho6, hlb, hlh, hq6, -, hR6, hg6⟩
  have hz6 : w4.heap.size ≤ w6.heap.size := hg6.size
  obtain ⟨mb, HMB⟩ : ∃ n, Hid (bs.length = n) := ⟨_, rfl⟩
  obtain ⟨mh, HMH⟩ : ∃ n, Hid (hs.length = n) := ⟨_, rfl⟩
  rw [HMB.out, HMH.out]
  rw [HMB.out] at hlb
  rw [HMH.out] at hlh
  obtain ⟨w7, HW7⟩ : ∃ Q0, Hid (w6.alloc (.cells (feedC fp fl fd fs Y1 mb e1 Y2 mh e2) 28) = Q0) := ⟨_, rfl⟩
  have hb7 : Below w6.heap.size w6 w7 := by rw [← HW7.out]; exact (Below.refl _ _).alloc (Nat.le_refl _) _
  have HP7 : Hid (PS w A len' cap' w6.heap.size X0 cX b0 w2.heap.size fp fl fd fs Y1 e1 Y2 e2 bs hs mb mh q6 w7) := by
    have k6 := KR4.out.grown hg6 (fun e => by injection e with e; omega)
    refine ⟨hR6.grown (grown_of_below hb7 none) (fun k hk => by cases hk), k6.below hb7 k6.lt, by rw [← HW7.out]; exact Blk.new w6 _ _, (owns_keep HS4.out hg6 (fun k hk => by injection hk with hk; omega)).below hb7, (ho6.below hb7).base_le (by omega), (HB4.out.grown hg6 (by omega) (fun k hk => by injection hk with hk; omega)).trans (hb7.mono (by omega)), by have := hb7.size; omega, by omega, by omega⟩
  clear ho6 hR6 hg6 hb7
  go_upto_region 5 with fail
  rw [HW7.out]
  by_cases hn0 : nb = 0
  · subst hn0
    go_upto_region 6 with fail
    (try go_wp2_with fail)
    refine wp_region_held_drew (S := (fun w' => w'.cell? ⟨w6.heap.size, 0, none⟩ = some (.int .i64 fp) ∧ w'.cell? ⟨w6.heap.size, 1, none⟩ = some (.int .i64 fl) ∧ w'.cell? ⟨w6.heap.size, 2, none⟩ = some (.int .i64 fd) ∧ w'.cell? ⟨w6.heap.size, 3, none⟩ = some (.int .i64 fs) ∧ w'.cell? ⟨w6.heap.size, 4, none⟩ = some (.slice Y1 mb e1) ∧ w'.cell? ⟨w6.heap.size, 5, none⟩ = some (.slice Y2 mh e2))) (by kernel_rfl) (feed_cells HP7.out.kf) (fun hHeld => ?_)
    obtain ⟨U0, HUE⟩ : ∃ U, Hid (w7.drew = U) := ⟨_, rfl⟩
    have HPu0 : Hid (PS w A len' cap' w6.heap.size X0 cX b0 w2.heap.size fp fl fd fs Y1 e1 Y2 e2 bs hs mb mh q6 U0) := by rw [← HUE.out]; exact HP7.out.drew
    rw [HUE.out] at hHeld ⊢
    refine wpAnyH_take (i := 0) (v := ?zv131001) rfl (by kernel_rfl) (by kernel_rfl) (by kernel_rfl) (fun _ _ _ h => h) (Or.inl ⟨by kernel_rfl, ?zy131001⟩) (by assumption) ?zr131001
    case zy131001 => (intro w hSw; (try dsimp only at hSw); go_simp; try with_reducible rfl)
    change wpAnyH _ _ _ _ _ _ _ (Act.put _ (some 29) _) _
    simp only [Act.put, List.setIfInBounds_toArray, List.set_cons_zero, List.set_cons_succ]
    refine wpAnyH_take (i := 1) (v := ?zv131002) rfl (by kernel_rfl) (by kernel_rfl) (by kernel_rfl) (fun _ _ _ h => h) (Or.inl ⟨by kernel_rfl, ?zy131002⟩) (by assumption) ?zr131002
    case zy131002 => (intro w hSw; (try dsimp only at hSw); go_simp; try with_reducible rfl)
    change wpAnyH _ _ _ _ _ _ _ (Act.put _ (some 30) _) _
    simp only [Act.put, List.setIfInBounds_toArray, List.set_cons_zero, List.set_cons_succ]
    refine wpAnyH_take (i := 3) (v := ?zv131003) rfl (by kernel_rfl) (by kernel_rfl) (by kernel_rfl) (fun _ _ _ h => h) (Or.inl ⟨by kernel_rfl, ?zy131003⟩) (by assumption) ?zr131003
    case zy131003 => (intro w hSw; (try dsimp only at hSw); go_simp; try with_reducible rfl)
    change wpAnyH _ _ _ _ _ _ _ (Act.put _ (some 32) _) _
    simp only [Act.put, List.setIfInBounds_toArray, List.set_cons_zero, List.set_cons_succ]
    refine wpAnyH_ready (rs := [2, 5]) (by kernel_rfl) (by simp) (AllReadyH.cons rfl (fun K hK => ?zo131004_0) (AllReadyH.cons rfl (fun K hK => ?zo131004_1) AllReadyH.nil))
    case zo131004_0 =>
      go_simp
      go_at_call 31
      refine (pick_any 3 HPu0.out.rd (by omega) (by omega) (by omega)).mono ?_
      rintro e U1 ⟨x, hx, rfl, hR1, hg1, hzz1⟩
      have HPu1 := Lib.hid (HPu0.out.pick hR1 hg1)
      clear hR1 hg1 hzz1
      refine hK.out _ _ (feed_cells HPu1.out.kf) (fun hHeld => ?_)
      clear hK K
      (try simp only [Act.put, List.setIfInBounds_toArray, List.set_cons_zero, List.set_cons_succ])
      refine wpAnyH_ready (rs := [4, 5]) (by kernel_rfl) (by simp) (AllReadyH.cons rfl (fun K hK => ?zo131005_0) (AllReadyH.cons rfl (fun K hK => ?zo131005_1) AllReadyH.nil))
      case zo131005_0 =>
        go_simp
        go_at_call 32
        refine (drawtext_any HPu1.out.rd (by omega)).mono ?_
        rintro e U2 ⟨tx, qt, htx, hqt, rfl, hR2, hg2⟩
        have HPu2 := Lib.hid (HPu1.out.pick hR2 hg2)
        clear hR2 hg2
        refine hK.out _ _ (feed_cells HPu2.out.kf) (fun hHeld => ?_)
        clear hK K
        (try simp only [Act.put, List.setIfInBounds_toArray, List.set_cons_zero, List.set_cons_succ])
        refine wpAnyH_ready (rs := [5, 6]) (by kernel_rfl) (by simp) (AllReadyH.cons rfl (fun K hK => ?zo131006_0) (AllReadyH.cons rfl (fun K hK => ?zo131006_1) AllReadyH.nil))
        case zo131006_0 =>
          go_simp
          refine hK.out _ _ (feed_cells (HPu2.out.kf.alloc _)) (fun hHeld => ?_)
          clear hK K
          (try simp only [Act.put, List.setIfInBounds_toArray, List.set_cons_zero, List.set_cons_succ])
          obtain ⟨U3, EU3⟩ : ∃ U, Hid (U2.alloc (.cells #[] 3) = U) := ⟨_, rfl⟩
          have hb3 : Below U2.heap.size U2 U3 := by rw [← EU3.out]; exact (Below.refl _ _).alloc (Nat.le_refl _) _
          have hlt3 : w.heap.size + 1 < U2.heap.size := HPu2.out.lt
          have HIN3 : Hid (OwnInts U3 U2.heap.size (some ⟨U2.heap.size, 0, none⟩) 0 []) := by rw [← EU3.out]; exact OwnInts.new U2
          have HPu3 := Lib.hid (HPu2.out.then_ hb3)
          clear hb3
          rw [EU3.out] at hHeld ⊢
          refine wpAnyH_ready (rs := [6]) (by kernel_rfl) (by simp) (AllReadyH.cons rfl (fun K hK => ?zo131007_0) AllReadyH.nil)
          case zo131007_0 =>
            go_simp
            obtain ⟨r0, r1, r2, r3, r4, r5⟩ := feed_cells HPu3.out.kr
            have rf := blk_frozen HPu3.out.kr
            obtain ⟨Y4, HY4⟩ : ∃ Q0, Hid (((((((U3.setCell ⟨w.heap.size, 0, none⟩ (.int .i64 fp)).setCell ⟨w.heap.size, 1, none⟩ (.int .i64 fl)).setCell ⟨w.heap.size, 2, none⟩ (.int .i64 fd)).setCell ⟨w.heap.size, 3, none⟩ (.int .i64 fs)).setCell ⟨w.heap.size, 4, none⟩ (.slice Y1 mb e1)).setCell ⟨w.heap.size, 5, none⟩ (.slice Y2 mh e2)) = Q0) := ⟨_, rfl⟩
            have HBF : Hid (Below w.heap.size w Y4) := by rw [← HY4.out]; exact below_six HPu3.out.below (Nat.le_refl _) _ _ _ _ _ _
            have KRF : Hid (Blk Y4 w.heap.size 28 (feedC fp fl fd fs Y1 mb e1 Y2 mh e2)) := by rw [← HY4.out]; exact blk_six HPu3.out.kr _ _ _ _ _ _
            have HOF : Hid (OwnFeed Y4 w.heap.size Y1 e1 Y2 e2 bs hs) := by rw [← HY4.out]; exact (own_six HPu3.out.own HPu3.out.kr _ _ _ _ _ _).base_le (by omega)
            have KFF : Hid (Blk Y4 w6.heap.size 28 (feedC fp fl fd fs Y1 mb e1 Y2 mh e2)) := by rw [← HY4.out]; exact kf_six HPu3.out.kf HPu3.out.gfR
            have HIF : Hid (OwnInts Y4 w.heap.size (some ⟨U2.heap.size, 0, none⟩) 0 []) := by rw [← HY4.out]; exact (ints_six HIN3.out (by omega) _ _ _ _ _ _).base_le (by omega)
            go_simp
            rw [HY4.out]
            refine hK.out _ _ (feed_cells KFF.out) (fun hHeld => ?_)
            clear hK K
            (try simp only [Act.put])
            clear r0 r1 r2 r3 r4 r5 rf
            refine wpAnyH_take (i := 7) (v := ?zv131008) rfl (by kernel_rfl) (by kernel_rfl) (by kernel_rfl) (fun _ _ _ h => h) (Or.inl ⟨by kernel_rfl, ?zy131008⟩) (by assumption) ?zr131008
            case zy131008 => (intro w hSw; (try dsimp only at hSw); go_simp; try with_reducible rfl)
            change wpAnyH _ _ _ _ _ _ _ (Act.put _ (some 3) _) _
            simp only [Act.put, List.setIfInBounds_toArray, List.set_cons_zero, List.set_cons_succ]
            refine wpAnyH_take (i := 8) (v := ?zv131009) rfl (by kernel_rfl) (by kernel_rfl) (by kernel_rfl) (fun _ _ _ h => h) (Or.inl ⟨by kernel_rfl, ?zy131009⟩) (by assumption) ?zr131009
            case zy131009 => (intro w hSw; (try dsimp only at hSw); go_simp; try with_reducible rfl)
            change wpAnyH _ _ _ _ _ _ _ (Act.put _ (some 4) _) _
            simp only [Act.put, List.setIfInBounds_toArray, List.set_cons_zero, List.set_cons_succ]
            refine wpAnyH_take (i := 9) (v := ?zv131010) rfl (by kernel_rfl) (by kernel_rfl) (by kernel_rfl) (fun _ _ _ h => h) (Or.inl ⟨by kernel_rfl, ?zy131010⟩) (by assumption) ?zr131010
            case zy131010 => (intro w hSw; (try dsimp only at hSw); go_simp; try with_reducible rfl)
            change wpAnyH _ _ _ _ _ _ _ (Act.put _ (some 5) _) _
            simp only [Act.put, List.setIfInBounds_toArray, List.set_cons_zero, List.set_cons_succ]
            refine wpAnyH_done (by kernel_rfl) ?_ _
            go_wp2
            obtain ⟨z0, z1, z2, z3, z4, z5⟩ := feed_cells KRF.out
            exact bodyPost_ret (v := .tuple #[feedV fp fl fd fs Y1 mb e1 Y2 mh e2, .int .i64 (x : Int), .string tx, .slice (some ⟨U2.heap.size, 0, none⟩) 0 0]) (by simp [results, Tryd.results9, go_sem, z0, z1, z2, z3, z4, z5]) rfl ⟨_, _, _, _, _, _, _, _, bs, hs, _, tx, some ⟨U2.heap.size, 0, none⟩, 0, [], by rw [HMB.out, HMH.out]; first | done | rfl, HOF.out, by rw [HMB.out]; exact hlb, by rw [HMH.out]; exact hlh, htx, by omega, by omega, HIF.out, by simp, HBF.out⟩
        case zo131006_1 =>
          go_simp
          obtain ⟨r0, r1, r2, r3, r4, r5⟩ := feed_cells HPu2.out.kr
          have rf := blk_frozen HPu2.out.kr
          obtain ⟨Y3, HY3⟩ : ∃ Q0, Hid (((((((U2.setCell ⟨w.heap.size, 0, none⟩ (.int .i64 fp)).setCell ⟨w.heap.size, 1, none⟩ (.int .i64 fl)).setCell ⟨w.heap.size, 2, none⟩ (.int .i64 fd)).setCell ⟨w.heap.size, 3, none⟩ (.int .i64 fs)).setCell ⟨w.heap.size, 4, none⟩ (.slice Y1 mb e1)).setCell ⟨w.heap.size, 5, none⟩ (.slice Y2 mh e2)) = Q0) := ⟨_, rfl⟩
          have HBS : Hid (Below w.heap.size w Y3) := by rw [← HY3.out]; exact below_six HPu2.out.below (Nat.le_refl _) _ _ _ _ _ _
          have KRS : Hid (Blk Y3 w.heap.size 28 (feedC fp fl fd fs Y1 mb e1 Y2 mh e2)) := by rw [← HY3.out]; exact blk_six HPu2.out.kr _ _ _ _ _ _
          have HOS : Hid (OwnFeed Y3 w.heap.size Y1 e1 Y2 e2 bs hs) := by rw [← HY3.out]; exact (own_six HPu2.out.own HPu2.out.kr _ _ _ _ _ _).base_le (by omega)
          have KFS : Hid (Blk Y3 w6.heap.size 28 (feedC fp fl fd fs Y1 mb e1 Y2 mh e2)) := by rw [← HY3.out]; exact kf_six HPu2.out.kf HPu2.out.gfR
          go_simp
          rw [HY3.out]
          refine hK.out _ _ (feed_cells KFS.out) (fun hHeld => ?_)
          clear hK K
          (try simp only [Act.put])
          clear r0 r1 r2 r3 r4 r5 rf
          refine wpAnyH_take (i := 7) (v := ?zv131011) rfl (by kernel_rfl) (by kernel_rfl) (by kernel_rfl) (fun _ _ _ h => h) (Or.inl ⟨by kernel_rfl, ?zy131011⟩) (by assumption) ?zr131011
          case zy131011 => (intro w hSw; (try dsimp only at hSw); go_simp; try with_reducible rfl)
          change wpAnyH _ _ _ _ _ _ _ (Act.put _ (some 3) _) _
          simp only [Act.put, List.setIfInBounds_toArray, List.set_cons_zero, List.set_cons_succ]
          refine wpAnyH_take (i := 8) (v := ?zv131012) rfl (by kernel_rfl) (by kernel_rfl) (by kernel_rfl) (fun _ _ _ h => h) (Or.inl ⟨by kernel_rfl, ?zy131012⟩) (by assumption) ?zr131012
          case zy131012 => (intro w hSw; (try dsimp only at hSw); go_simp; try with_reducible rfl)
          change wpAnyH _ _ _ _ _ _ _ (Act.put _ (some 4) _) _
          simp only [Act.put, List.setIfInBounds_toArray, List.set_cons_zero, List.set_cons_succ]
          refine wpAnyH_ready (rs := [5]) (by kernel_rfl) (by simp) (AllReadyH.cons rfl (fun K hK => ?zo131013_0) AllReadyH.nil)
          case zo131013_0 =>
            go_simp
            refine hK.out _ _ (feed_cells (KFS.out.alloc _)) (fun hHeld => ?_)
            clear hK K
            (try simp only [Act.put, List.setIfInBounds_toArray, List.set_cons_zero, List.set_cons_succ])
            obtain ⟨U4, EU4⟩ : ∃ U, Hid (Y3.alloc (.cells #[] 3) = U) := ⟨_, rfl⟩
            have HBF : Hid (Below w.heap.size w U4) := by rw [← EU4.out]; exact HBS.out.alloc HBS.out.size _
            have KRF : Hid (Blk U4 w.heap.size 28 (feedC fp fl fd fs Y1 mb e1 Y2 mh e2)) := by rw [← EU4.out]; exact KRS.out.alloc _
            have HOF : Hid (OwnFeed U4 w.heap.size Y1 e1 Y2 e2 bs hs) := by rw [← EU4.out]; exact HOS.out.alloc _
            have HIF : Hid (OwnInts U4 w.heap.size (some ⟨Y3.heap.size, 0, none⟩) 0 []) := by rw [← EU4.out]; exact (OwnInts.new Y3).base_le HBS.out.size
            rw [EU4.out] at hHeld ⊢
            refine wpAnyH_take (i := 9) (v := ?zv131014) rfl (by kernel_rfl) (by kernel_rfl) (by kernel_rfl) (fun _ _ _ h => h) (Or.inl ⟨by kernel_rfl, ?zy131014⟩) (by assumption) ?zr131014
            case zy131014 => (intro w hSw; (try dsimp only at hSw); go_simp; try with_reducible rfl)
            change wpAnyH _ _ _ _ _ _ _ (Act.put _ (some 5) _) _
            simp only [Act.put, List.setIfInBounds_toArray, List.set_cons_zero, List.set_cons_succ]
            refine wpAnyH_done (by kernel_rfl) ?_ _
            go_wp2
            obtain ⟨z0, z1, z2, z3, z4, z5⟩ := feed_cells KRF.out
            exact bodyPost_ret (v := .tuple #[feedV fp fl fd fs Y1 mb e1 Y2 mh e2, .int .i64 (x : Int), .string tx, .slice (some ⟨Y3.heap.size, 0, none⟩) 0 0]) (by simp [results, Tryd.results9, go_sem, z0, z1, z2, z3, z4, z5]) rfl ⟨_, _, _, _, _, _, _, _, bs, hs, _, tx, some ⟨Y3.heap.size, 0, none⟩, 0, [], by rw [HMB.out, HMH.out]; first | done | rfl, HOF.out, by rw [HMB.out]; exact hlb, by rw [HMH.out]; exact hlh, htx, by omega, by omega, HIF.out, by simp, HBF.out⟩
      case zo131005_1 =>
        go_simp
        refine hK.out _ _ (feed_cells (HPu1.out.kf.alloc _)) (fun hHeld => ?_)
        clear hK K
        (try simp only [Act.put, List.setIfInBounds_toArray, List.set_cons_zero, List.set_cons_succ])
        obtain ⟨U2, EU2⟩ : ∃ U, Hid (U1.alloc (.cells #[] 3) = U) := ⟨_, rfl⟩
        have hb2 : Below U1.heap.size U1 U2 := by rw [← EU2.out]; exact (Below.refl _ _).alloc (Nat.le_refl _) _
        have hlt2 : w.heap.size + 1 < U1.heap.size := HPu1.out.lt
        have HIN2 : Hid (OwnInts U2 U1.heap.size (some ⟨U1.heap.size, 0, none⟩) 0 []) := by rw [← EU2.out]; exact OwnInts.new U1
        have HPu2 := Lib.hid (HPu1.out.then_ hb2)
        clear hb2
        rw [EU2.out] at hHeld ⊢
        refine wpAnyH_ready (rs := [4]) (by kernel_rfl) (by simp) (AllReadyH.cons rfl (fun K hK => ?zo131015_0) AllReadyH.nil)
        case zo131015_0 =>
          go_simp
          go_at_call 32
          refine (drawtext_any HPu2.out.rd (by omega)).mono ?_
          rintro e U3 ⟨tx, qt, htx, hqt, rfl, hR3, hg3⟩
          have HPu3 := Lib.hid (HPu2.out.pick hR3 hg3)
          have HIN3 := Lib.hid (HIN2.out.keep hg3 (fun i hi => by injection hi with hi; omega))
          clear hR3 hg3
          refine hK.out _ _ (feed_cells HPu3.out.kf) (fun hHeld => ?_)
          clear hK K
          (try simp only [Act.put, List.setIfInBounds_toArray, List.set_cons_zero, List.set_cons_succ])
          refine wpAnyH_ready (rs := [6]) (by kernel_rfl) (by simp) (AllReadyH.cons rfl (fun K hK => ?zo131016_0) AllReadyH.nil)
          case zo131016_0 =>
            go_simp
            obtain ⟨r0, r1, r2, r3, r4, r5⟩ := feed_cells HPu3.out.kr
            have rf := blk_frozen HPu3.out.kr
            obtain ⟨Y4, HY4⟩ : ∃ Q0, Hid (((((((U3.setCell ⟨w.heap.size, 0, none⟩ (.int .i64 fp)).setCell ⟨w.heap.size, 1, none⟩ (.int .i64 fl)).setCell ⟨w.heap.size, 2, none⟩ (.int .i64 fd)).setCell ⟨w.heap.size, 3, none⟩ (.int .i64 fs)).setCell ⟨w.heap.size, 4, none⟩ (.slice Y1 mb e1)).setCell ⟨w.heap.size, 5, none⟩ (.slice Y2 mh e2)) = Q0) := ⟨_, rfl⟩
            have HBF : Hid (Below w.heap.size w Y4) := by rw [← HY4.out]; exact below_six HPu3.out.below (Nat.le_refl _) _ _ _ _ _ _
            have KRF : Hid (Blk Y4 w.heap.size 28 (feedC fp fl fd fs Y1 mb e1 Y2 mh e2)) := by rw [← HY4.out]; exact blk_six HPu3.out.kr _ _ _ _ _ _
            have HOF : Hid (OwnFeed Y4 w.heap.size Y1 e1 Y2 e2 bs hs) := by rw [← HY4.out]; exact (own_six HPu3.out.own HPu3.out.kr _ _ _ _ _ _).base_le (by omega)
            have KFF : Hid (Blk Y4 w6.heap.size 28 (feedC fp fl fd fs Y1 mb e1 Y2 mh e2)) := by rw [← HY4.out]; exact kf_six HPu3.out.kf HPu3.out.gfR
            have HIF : Hid (OwnInts Y4 w.heap.size (some ⟨U1.heap.size, 0, none⟩) 0 []) := by rw [← HY4.out]; exact (ints_six HIN3.out (by omega) _ _ _ _ _ _).base_le (by omega)
            go_simp
            rw [HY4.out]
            refine hK.out _ _ (feed_cells KFF.out) (fun hHeld => ?_)
            clear hK K
            (try simp only [Act.put])
            clear r0 r1 r2 r3 r4 r5 rf
            refine wpAnyH_take (i := 7) (v := ?zv131017) rfl (by kernel_rfl) (by kernel_rfl) (by kernel_rfl) (fun _ _ _ h => h) (Or.inl ⟨by kernel_rfl, ?zy131017⟩) (by assumption) ?zr131017
            case zy131017 => (intro w hSw; (try dsimp only at hSw); go_simp; try with_reducible rfl)
            change wpAnyH _ _ _ _ _ _ _ (Act.put _ (some 3) _) _
            simp only [Act.put, List.setIfInBounds_toArray, List.set_cons_zero, List.set_cons_succ]
            refine wpAnyH_take (i := 8) (v := ?zv131018) rfl (by kernel_rfl) (by kernel_rfl) (by kernel_rfl) (fun _ _ _ h => h) (Or.inl ⟨by kernel_rfl, ?zy131018⟩) (by assumption) ?zr131018
            case zy131018 => (intro w hSw; (try dsimp only at hSw); go_simp; try with_reducible rfl)
            change wpAnyH _ _ _ _ _ _ _ (Act.put _ (some 4) _) _
            simp only [Act.put, List.setIfInBounds_toArray, List.set_cons_zero, List.set_cons_succ]
            refine wpAnyH_take (i := 9) (v := ?zv131019) rfl (by kernel_rfl) (by kernel_rfl) (by kernel_rfl) (fun _ _ _ h => h) (Or.inl ⟨by kernel_rfl, ?zy131019⟩) (by assumption) ?zr131019
            case zy131019 => (intro w hSw; (try dsimp only at hSw); go_simp; try with_reducible rfl)
            change wpAnyH _ _ _ _ _ _ _ (Act.put _ (some 5) _) _
            simp only [Act.put, List.setIfInBounds_toArray, List.set_cons_zero, List.set_cons_succ]
            refine wpAnyH_done (by kernel_rfl) ?_ _
            go_wp2
            obtain ⟨z0, z1, z2, z3, z4, z5⟩ := feed_cells KRF.out
            exact bodyPost_ret (v := .tuple #[feedV fp fl fd fs Y1 mb e1 Y2 mh e2, .int .i64 (x : Int), .string tx, .slice (some ⟨U1.heap.size, 0, none⟩) 0 0]) (by simp [results, Tryd.results9, go_sem, z0, z1, z2, z3, z4, z5]) rfl ⟨_, _, _, _, _, _, _, _, bs, hs, _, tx, some ⟨U1.heap.size, 0, none⟩, 0, [], by rw [HMB.out, HMH.out]; first | done | rfl, HOF.out, by rw [HMB.out]; exact hlb, by rw [HMH.out]; exact hlh, htx, by omega, by omega, HIF.out, by simp, HBF.out⟩
    case zo131004_1 =>
      go_simp
      refine hK.out _ _ (feed_cells (HPu0.out.kf.alloc _)) (fun hHeld => ?_)
      clear hK K
      (try simp only [Act.put, List.setIfInBounds_toArray, List.set_cons_zero, List.set_cons_succ])
      obtain ⟨U1, EU1⟩ : ∃ U, Hid (U0.alloc (.cells #[] 3) = U) := ⟨_, rfl⟩
      have hb1 : Below U0.heap.size U0 U1 := by rw [← EU1.out]; exact (Below.refl _ _).alloc (Nat.le_refl _) _
      have hlt1 : w.heap.size + 1 < U0.heap.size := HPu0.out.lt
      have HIN1 : Hid (OwnInts U1 U0.heap.size (some ⟨U0.heap.size, 0, none⟩) 0 []) := by rw [← EU1.out]; exact OwnInts.new U0
      have HPu1 := Lib.hid (HPu0.out.then_ hb1)
      clear hb1
      rw [EU1.out] at hHeld ⊢
      refine wpAnyH_ready (rs := [2]) (by kernel_rfl) (by simp) (AllReadyH.cons rfl (fun K hK => ?zo131020_0) AllReadyH.nil)
      case zo131020_0 =>
        go_simp
        go_at_call 31
        refine (pick_any 3 HPu1.out.rd (by omega) (by omega) (by omega)).mono ?_
        rintro e U2 ⟨x, hx, rfl, hR2, hg2, hzz2⟩
        have HPu2 := Lib.hid (HPu1.out.pick hR2 hg2)
        have HIN2 := Lib.hid (HIN1.out.keep hg2 (fun i hi => by injection hi with hi; omega))
        clear hR2 hg2 hzz2
        refine hK.out _ _ (feed_cells HPu2.out.kf) (fun hHeld => ?_)
        clear hK K
        (try simp only [Act.put, List.setIfInBounds_toArray, List.set_cons_zero, List.set_cons_succ])
        refine wpAnyH_ready (rs := [4]) (by kernel_rfl) (by simp) (AllReadyH.cons rfl (fun K hK => ?zo131021_0) AllReadyH.nil)
        case zo131021_0 =>
          go_simp
          go_at_call 32
          refine (drawtext_any HPu2.out.rd (by omega)).mono ?_
          rintro e U3 ⟨tx, qt, htx, hqt, rfl, hR3, hg3⟩
          have HPu3 := Lib.hid (HPu2.out.pick hR3 hg3)
          have HIN3 := Lib.hid (HIN2.out.keep hg3 (fun i hi => by injection hi with hi; omega))
          clear hR3 hg3
          refine hK.out _ _ (feed_cells HPu3.out.kf) (fun hHeld => ?_)
          clear hK K
          (try simp only [Act.put, List.setIfInBounds_toArray, List.set_cons_zero, List.set_cons_succ])
          refine wpAnyH_ready (rs := [6]) (by kernel_rfl) (by simp) (AllReadyH.cons rfl (fun K hK => ?zo131022_0) AllReadyH.nil)
          case zo131022_0 =>
            go_simp
            obtain ⟨r0, r1, r2, r3, r4, r5⟩ := feed_cells HPu3.out.kr
            have rf := blk_frozen HPu3.out.kr
            obtain ⟨Y4, HY4⟩ : ∃ Q0, Hid (((((((U3.setCell ⟨w.heap.size, 0, none⟩ (.int .i64 fp)).setCell ⟨w.heap.size, 1, none⟩ (.int .i64 fl)).setCell ⟨w.heap.size, 2, none⟩ (.int .i64 fd)).setCell ⟨w.heap.size, 3, none⟩ (.int .i64 fs)).setCell ⟨w.heap.size, 4, none⟩ (.slice Y1 mb e1)).setCell ⟨w.heap.size, 5, none⟩ (.slice Y2 mh e2)) = Q0) := ⟨_, rfl⟩
            have HBF : Hid (Below w.heap.size w Y4) := by rw [← HY4.out]; exact below_six HPu3.out.below (Nat.le_refl _) _ _ _ _ _ _
            have KRF : Hid (Blk Y4 w.heap.size 28 (feedC fp fl fd fs Y1 mb e1 Y2 mh e2)) := by rw [← HY4.out]; exact blk_six HPu3.out.kr _ _ _ _ _ _
            have HOF : Hid (OwnFeed Y4 w.heap.size Y1 e1 Y2 e2 bs hs) := by rw [← HY4.out]; exact (own_six HPu3.out.own HPu3.out.kr _ _ _ _ _ _).base_le (by omega)
            have KFF : Hid (Blk Y4 w6.heap.size 28 (feedC fp fl fd fs Y1 mb e1 Y2 mh e2)) := by rw [← HY4.out]; exact kf_six HPu3.out.kf HPu3.out.gfR
            have HIF : Hid (OwnInts Y4 w.heap.size (some ⟨U0.heap.size, 0, none⟩) 0 []) := by rw [← HY4.out]; exact (ints_six HIN3.out (by omega) _ _ _ _ _ _).base_le (by omega)
            go_simp
            rw [HY4.out]
            refine hK.out _ _ (feed_cells KFF.out) (fun hHeld => ?_)
            clear hK K
            (try simp only [Act.put])
            clear r0 r1 r2 r3 r4 r5 rf
            refine wpAnyH_take (i := 7) (v := ?zv131023) rfl (by kernel_rfl) (by kernel_rfl) (by kernel_rfl) (fun _ _ _ h => h) (Or.inl ⟨by kernel_rfl, ?zy131023⟩) (by assumption) ?zr131023
            case zy131023 => (intro w hSw; (try dsimp only at hSw); go_simp; try with_reducible rfl)
            change wpAnyH _ _ _ _ _ _ _ (Act.put _ (some 3) _) _
            simp only [Act.put, List.setIfInBounds_toArray, List.set_cons_zero, List.set_cons_succ]
            refine wpAnyH_take (i := 8) (v := ?zv131024) rfl (by kernel_rfl) (by kernel_rfl) (by kernel_rfl) (fun _ _ _ h => h) (Or.inl ⟨by kernel_rfl, ?zy131024⟩) (by assumption) ?zr131024
            case zy131024 => (intro w hSw; (try dsimp only at hSw); go_simp; try with_reducible rfl)
            change wpAnyH _ _ _ _ _ _ _ (Act.put _ (some 4) _) _
            simp only [Act.put, List.setIfInBounds_toArray, List.set_cons_zero, List.set_cons_succ]
            refine wpAnyH_take (i := 9) (v := ?zv131025) rfl (by kernel_rfl) (by kernel_rfl) (by kernel_rfl) (fun _ _ _ h => h) (Or.inl ⟨by kernel_rfl, ?zy131025⟩) (by assumption) ?zr131025
            case zy131025 => (intro w hSw; (try dsimp only at hSw); go_simp; try with_reducible rfl)
            change wpAnyH _ _ _ _ _ _ _ (Act.put _ (some 5) _) _
            simp only [Act.put, List.setIfInBounds_toArray, List.set_cons_zero, List.set_cons_succ]
            refine wpAnyH_done (by kernel_rfl) ?_ _
            go_wp2
            obtain ⟨z0, z1, z2, z3, z4, z5⟩ := feed_cells KRF.out
            exact bodyPost_ret (v := .tuple #[feedV fp fl fd fs Y1 mb e1 Y2 mh e2, .int .i64 (x : Int), .string tx, .slice (some ⟨U0.heap.size, 0, none⟩) 0 0]) (by simp [results, Tryd.results9, go_sem, z0, z1, z2, z3, z4, z5]) rfl ⟨_, _, _, _, _, _, _, _, bs, hs, _, tx, some ⟨U0.heap.size, 0, none⟩, 0, [], by rw [HMB.out, HMH.out]; first | done | rfl, HOF.out, by rw [HMB.out]; exact hlb, by rw [HMH.out]; exact hlh, htx, by omega, by omega, HIF.out, by simp, HBF.out⟩
  · have hnp : ¬ nb = 0 := hn0
    have hnbi : ((nb : Int) == 0) = false := by rw [beq_eq_false_iff_ne]; omega
    go_wp2_with fail
    refine (pick_any (nb : Int) HP7.out.rd (by omega) (by omega) (by omega)).mono ?_
    rintro e w8 ⟨x0, hx0, rfl, hR8, hg8, hzz8⟩
    have HP8 := Lib.hid (HP7.out.pick hR8 hg8)
    clear hR8 hg8 hzz8
    go_wp2
    go_loopw [10, 11] (fun si sk wr => ∃ (k x q : Nat), k ≤ 6 ∧ x < nb ∧ si = .int .i64 (x : Int) ∧ sk = .int .i64 (k : Int) ∧ q ≤ q6 + 1 + k ∧ Hid (PS w A len' cap' w6.heap.size X0 cX b0 w2.heap.size fp fl fd fs Y1 e1 Y2 e2 bs hs mb mh q wr)) (fun _ sk _ => 6 - (intOf sk).toNat)
    case atStart => exact ⟨0, x0, q6 + 1, Nat.zero_le _, by omega, rfl, rfl, by omega, HP8⟩
    case round =>
      obtain ⟨k, x, q, hk, hx, rfl, rfl, hq, HPr⟩ := hrel
      obtain ⟨k0, k1, k2, k3, k4, k5⟩ := feed_cells HPr.out.kf
      have hx0 : (0 : Int) ≤ (x : Int) := by omega
      by_cases hk6 : k < 6
      · have hk6i : (k : Int) < 6 := by omega
        by_cases hxm : x < mh
        · have hxmi : (x : Int) < (mh : Int) := by omega
          have hxh : x < hs.length := by rw [HMH.out]; exact hxm
          obtain ⟨bb, ob, hY2, hbb, hcell⟩ := HPr.out.own.bits.ints.at_ (by omega)
          have hbit := hcell x hxh
          obtain ⟨bt, HBT⟩ : ∃ v, Hid (bth hs x = v) := ⟨_, rfl⟩
          rw [HBT.out] at hbit
          have HY2 := Lib.hid hY2
          clear hcell hY2 hxh
          cases bt with
          | true =>
            rw [HY2.out] at k5
            go_wp2_with fail
            refine (pick_any (nb : Int) HPr.out.rd (by omega) (by omega) (by omega)).mono ?_
            rintro e w9 ⟨x1, hx1, rfl, hR9, hg9, hzz9⟩
            have HP9 := Lib.hid (HPr.out.pick hR9 hg9)
            clear hR9 hg9 hzz9
            clear k0 k1 k2 k3 k4 k5 hbit
            go_wp2
            go_roundw
            case rel => exact ⟨k + 1, x1, q + 1, by omega, by omega, rfl, by go_num, by omega, HP9⟩
            case measure => simp [intOf]; omega
          | false =>
            rw [HY2.out] at k5
            go_upto_region 12 with fail
            clear k0 k1 k2 k3 k4 k5 hbit
            obtain ⟨bx, rfl⟩ := HS3.out.some_
            have hxb : x < b0.length := by rw [HNB.out]; exact hx
            obtain ⟨tc, tf⟩ := owns_cell HPr.out.txt x hxb
            obtain ⟨tx, HTX⟩ : ∃ v, Hid (sth b0 x = v) := ⟨_, rfl⟩
            have htx8 : tx.size ≤ 8 := by rw [← HTX.out]; exact HSHT.out x hxb
            rw [HTX.out] at tc
            have hx00 : (0 : Int) ≤ (x : Int) := by omega
            have CL := Lib.hid (sleaves_any _ cX b0 wr HPr.out.txt.ints HSHT.out (by rw [HNB.out]; omega))
            rw [HNB.out] at CL
            have HLL : Hid ((leafL b0).length = nb) := by show _ = _; rw [leafL_length]; exact HNB.out
            clear hxb
            go_wp2_with fail
            refine CL.out.mono ?_
            rintro e wa ⟨Z, cz, rfl, hoz, hba⟩
            rw [HLL.out]
            have HPa := Lib.hid (HPr.out.then_ hba)
            have hltr : w.heap.size + 1 < wr.heap.size := HPr.out.lt
            obtain ⟨zb, zo, hZ⟩ : ∃ b o, Z = some ⟨b, o, none⟩ := by
              rcases hoz.formA with ⟨h, _⟩ | h
              · subst h
                obtain ⟨b, o, e, _⟩ := hoz.ints (by rw [HLL.out]; omega)
                cases e
              · exact h
            subst hZ
            have CP := Lib.hid (sproof_any (leafL b0) (x : Int) zb zo cz wa hoz.ints hoz.le.1 hoz.le.2)
            rw [HLL.out] at CP
            clear hoz hba
            go_wp2_with fail
            refine CP.out.mono ?_
            rintro e wp ⟨P, cp, rfl, hop, hbp⟩
            obtain ⟨zs, HZS⟩ : ∃ v, Hid (proofOr (leafL b0) (x : Int) = v) := ⟨_, rfl⟩
            rw [HZS.out] at hop ⊢
            have hzs6 : zs.length ≤ 6 := by rw [← HZS.out]; exact proofOr_short _ _
            obtain ⟨np, HNP⟩ : ∃ v, Hid (zs.length = v) := ⟨_, rfl⟩
            rw [HNP.out] at hzs6 ⊢
            have HPp := Lib.hid (HPa.out.then_ hbp)
            have hlta : w.heap.size + 1 < wa.heap.size := HPa.out.lt
            have HIPp := Lib.hid hop
            clear hop hbp tc tf
            go_wp2_with fail
            refine (pick_any 10 HPp.out.rd (by omega) (by omega) (by omega)).mono ?_
            rintro e wy ⟨y, hy, rfl, hRy, hgy, hzzy⟩
            have HPy := Lib.hid (HPp.out.pick hRy hgy)
            have HIPy := Lib.hid (HIPp.out.keep hgy (fun i hi => by injection hi with hi; omega))
            clear hRy hgy hzzy
            by_cases hy0 : y = 0
            · subst hy0
              go_wp2_with fail
              refine (drawtext_any HPy.out.rd (by omega)).mono ?_
              rintro e wt ⟨t2, qt, ht2, hqt, rfl, hRt, hgt⟩
              have HPt := Lib.hid (HPy.out.pick hRt hgt)
              have HIPt := Lib.hid (HIPy.out.keep hgt (fun i hi => by injection hi with hi; omega))
              clear hRt hgt
              obtain ⟨k0, k1, k2, k3, k4, k5⟩ := feed_cells HPt.out.kf
              obtain ⟨r0, r1, r2, r3, r4, r5⟩ := feed_cells HPt.out.kr
              have rf := blk_frozen HPt.out.kr
              go_wp2
              obtain ⟨Y, HY⟩ : ∃ Q0, Hid (((((((wt.setCell ⟨w.heap.size, 0, none⟩ (.int .i64 fp)).setCell ⟨w.heap.size, 1, none⟩ (.int .i64 fl)).setCell ⟨w.heap.size, 2, none⟩ (.int .i64 fd)).setCell ⟨w.heap.size, 3, none⟩ (.int .i64 fs)).setCell ⟨w.heap.size, 4, none⟩ (.slice Y1 mb e1)).setCell ⟨w.heap.size, 5, none⟩ (.slice Y2 mh e2)) = Q0) := ⟨_, rfl⟩
              rw [HY.out]
              have HBY : Hid (Below w.heap.size w Y) := by rw [← HY.out]; exact below_six HPt.out.below (Nat.le_refl _) _ _ _ _ _ _
              have KRY : Hid (Blk Y w.heap.size 28 (feedC fp fl fd fs Y1 mb e1 Y2 mh e2)) := by rw [← HY.out]; exact blk_six HPt.out.kr _ _ _ _ _ _
              have hown : OwnFeed Y w.heap.size Y1 e1 Y2 e2 bs hs := by rw [← HY.out]; exact (own_six HPt.out.own HPt.out.kr _ _ _ _ _ _).base_le (by omega)
              have hint : OwnInts Y w.heap.size P cp zs := by rw [← HY.out]; exact (ints_six HIPt.out (by omega) _ _ _ _ _ _).base_le (by omega)
              obtain ⟨z0, z1, z2, z3, z4, z5⟩ := feed_cells KRY.out
              exact bodyPost_ret (v := .tuple #[feedV fp fl fd fs Y1 mb e1 Y2 mh e2, .int .i64 ((x : Int)), .string t2, .slice P np cp]) (by simp [results, Tryd.results9, go_sem, z0, z1, z2, z3, z4, z5]) rfl ⟨_, _, _, _, _, _, _, _, bs, hs, _, t2, P, cp, zs, by rw [HMB.out, HMH.out, HNP.out]; first | done | rfl, hown, by rw [HMB.out]; exact hlb, by rw [HMH.out]; exact hlh, ht2, by omega, by omega, hint, by first | (simp; done) | (rw [HNP.out]; omega), HBY.out⟩
            · have hy0i : ((y : Int) == 0) = false := by rw [beq_eq_false_iff_ne]; omega
              by_cases hy1 : y = 1
              · subst hy1
                go_wp2_with fail
                refine (pick_any 18 HPy.out.rd (by omega) (by omega) (by omega)).mono ?_
                rintro e wt ⟨u, hu, rfl, hRt, hgt, hzzt⟩
                have HPt := Lib.hid (HPy.out.pick hRt hgt)
                have HIPt := Lib.hid (HIPy.out.keep hgt (fun i hi => by injection hi with hi; omega))
                clear hRt hgt hzzt
                have hu0 : (0 : Int) ≤ (u : Int) := by omega
                have hu1 : (u : Int) ≤ 18 := by omega
                obtain ⟨k0, k1, k2, k3, k4, k5⟩ := feed_cells HPt.out.kf
                obtain ⟨r0, r1, r2, r3, r4, r5⟩ := feed_cells HPt.out.kr
                have rf := blk_frozen HPt.out.kr
                go_wp2
                obtain ⟨Y, HY⟩ : ∃ Q0, Hid (((((((wt.setCell ⟨w.heap.size, 0, none⟩ (.int .i64 fp)).setCell ⟨w.heap.size, 1, none⟩ (.int .i64 fl)).setCell ⟨w.heap.size, 2, none⟩ (.int .i64 fd)).setCell ⟨w.heap.size, 3, none⟩ (.int .i64 fs)).setCell ⟨w.heap.size, 4, none⟩ (.slice Y1 mb e1)).setCell ⟨w.heap.size, 5, none⟩ (.slice Y2 mh e2)) = Q0) := ⟨_, rfl⟩
                rw [HY.out]
                have HBY : Hid (Below w.heap.size w Y) := by rw [← HY.out]; exact below_six HPt.out.below (Nat.le_refl _) _ _ _ _ _ _
                have KRY : Hid (Blk Y w.heap.size 28 (feedC fp fl fd fs Y1 mb e1 Y2 mh e2)) := by rw [← HY.out]; exact blk_six HPt.out.kr _ _ _ _ _ _
                have hown : OwnFeed Y w.heap.size Y1 e1 Y2 e2 bs hs := by rw [← HY.out]; exact (own_six HPt.out.own HPt.out.kr _ _ _ _ _ _).base_le (by omega)
                have hint : OwnInts Y w.heap.size P cp zs := by rw [← HY.out]; exact (ints_six HIPt.out (by omega) _ _ _ _ _ _).base_le (by omega)
                obtain ⟨z0, z1, z2, z3, z4, z5⟩ := feed_cells KRY.out
                exact bodyPost_ret (v := .tuple #[feedV fp fl fd fs Y1 mb e1 Y2 mh e2, .int .i64 ((u : Int) - 1), .string tx, .slice P np cp]) (by simp [results, Tryd.results9, go_sem, z0, z1, z2, z3, z4, z5]) rfl ⟨_, _, _, _, _, _, _, _, bs, hs, _, tx, P, cp, zs, by rw [HMB.out, HMH.out, HNP.out]; first | done | rfl, hown, by rw [HMB.out]; exact hlb, by rw [HMH.out]; exact hlh, by omega, by omega, by omega, hint, by first | (simp; done) | (rw [HNP.out]; omega), HBY.out⟩
              · have hy1i : ((y : Int) == 1) = false := by rw [beq_eq_false_iff_ne]; omega
                by_cases hy2 : y = 2
                · subst hy2
                  have CB := Lib.hid (bendG_any HPy.out.rd (by omega) P cp zs HIPy.out.ints (by rw [HNP.out]; omega) (fun e => by rcases HIPy.out.formA with ⟨_, h⟩ | ⟨b, o, h⟩; exact h; rw [h] at e; cases e))
                  rw [HNP.out] at CB
                  go_wp2_with fail
                  refine CB.out.mono ?_
                  rintro e wt ⟨P2, cp2, zs2, q2b, rfl, hz2b, hq2b, hrd⟩
                  have hltY : w.heap.size + 1 < wy.heap.size := HPy.out.lt
                  have HPt := Lib.hid (HPy.out.pick hrd.rd hrd.grown)
                  have HIPt := Lib.hid hrd.own
                  obtain ⟨np2, HNP2⟩ : ∃ v, Hid (zs2.length = v) := ⟨_, rfl⟩
                  rw [HNP2.out] at hz2b ⊢
                  clear hrd HNP
                  have HNP := HNP2
                  obtain ⟨k0, k1, k2, k3, k4, k5⟩ := feed_cells HPt.out.kf
                  obtain ⟨r0, r1, r2, r3, r4, r5⟩ := feed_cells HPt.out.kr
                  have rf := blk_frozen HPt.out.kr
                  go_wp2
                  obtain ⟨Y, HY⟩ : ∃ Q0, Hid (((((((wt.setCell ⟨w.heap.size, 0, none⟩ (.int .i64 fp)).setCell ⟨w.heap.size, 1, none⟩ (.int .i64 fl)).setCell ⟨w.heap.size, 2, none⟩ (.int .i64 fd)).setCell ⟨w.heap.size, 3, none⟩ (.int .i64 fs)).setCell ⟨w.heap.size, 4, none⟩ (.slice Y1 mb e1)).setCell ⟨w.heap.size, 5, none⟩ (.slice Y2 mh e2)) = Q0) := ⟨_, rfl⟩
                  rw [HY.out]
                  have HBY : Hid (Below w.heap.size w Y) := by rw [← HY.out]; exact below_six HPt.out.below (Nat.le_refl _) _ _ _ _ _ _
                  have KRY : Hid (Blk Y w.heap.size 28 (feedC fp fl fd fs Y1 mb e1 Y2 mh e2)) := by rw [← HY.out]; exact blk_six HPt.out.kr _ _ _ _ _ _
                  have hown : OwnFeed Y w.heap.size Y1 e1 Y2 e2 bs hs := by rw [← HY.out]; exact (own_six HPt.out.own HPt.out.kr _ _ _ _ _ _).base_le (by omega)
                  have hint : OwnInts Y w.heap.size P2 cp2 zs2 := by rw [← HY.out]; exact (ints_six HIPt.out (by omega) _ _ _ _ _ _).base_le (by omega)
                  obtain ⟨z0, z1, z2, z3, z4, z5⟩ := feed_cells KRY.out
                  exact bodyPost_ret (v := .tuple #[feedV fp fl fd fs Y1 mb e1 Y2 mh e2, .int .i64 ((x : Int)), .string tx, .slice P2 np2 cp2]) (by simp [results, Tryd.results9, go_sem, z0, z1, z2, z3, z4, z5]) rfl ⟨_, _, _, _, _, _, _, _, bs, hs, _, tx, P2, cp2, zs2, by rw [HMB.out, HMH.out, HNP2.out]; first | done | rfl, hown, by rw [HMB.out]; exact hlb, by rw [HMH.out]; exact hlh, by omega, by omega, by omega, hint, by first | (simp; done) | (rw [HNP.out]; omega), HBY.out⟩
                · have hy2i : ((y : Int) == 2) = false := by rw [beq_eq_false_iff_ne]; omega
                  obtain ⟨k0, k1, k2, k3, k4, k5⟩ := feed_cells HPy.out.kf
                  obtain ⟨r0, r1, r2, r3, r4, r5⟩ := feed_cells HPy.out.kr
                  have rf := blk_frozen HPy.out.kr
                  go_wp2
                  obtain ⟨Y, HY⟩ : ∃ Q0, Hid (((((((wy.setCell ⟨w.heap.size, 0, none⟩ (.int .i64 fp)).setCell ⟨w.heap.size, 1, none⟩ (.int .i64 fl)).setCell ⟨w.heap.size, 2, none⟩ (.int .i64 fd)).setCell ⟨w.heap.size, 3, none⟩ (.int .i64 fs)).setCell ⟨w.heap.size, 4, none⟩ (.slice Y1 mb e1)).setCell ⟨w.heap.size, 5, none⟩ (.slice Y2 mh e2)) = Q0) := ⟨_, rfl⟩
                  rw [HY.out]
                  have HBY : Hid (Below w.heap.size w Y) := by rw [← HY.out]; exact below_six HPy.out.below (Nat.le_refl _) _ _ _ _ _ _
                  have KRY : Hid (Blk Y w.heap.size 28 (feedC fp fl fd fs Y1 mb e1 Y2 mh e2)) := by rw [← HY.out]; exact blk_six HPy.out.kr _ _ _ _ _ _
                  have hown : OwnFeed Y w.heap.size Y1 e1 Y2 e2 bs hs := by rw [← HY.out]; exact (own_six HPy.out.own HPy.out.kr _ _ _ _ _ _).base_le (by omega)
                  have hint : OwnInts Y w.heap.size P cp zs := by rw [← HY.out]; exact (ints_six HIPy.out (by omega) _ _ _ _ _ _).base_le (by omega)
                  obtain ⟨z0, z1, z2, z3, z4, z5⟩ := feed_cells KRY.out
                  exact bodyPost_ret (v := .tuple #[feedV fp fl fd fs Y1 mb e1 Y2 mh e2, .int .i64 ((x : Int)), .string tx, .slice P np cp]) (by simp [results, Tryd.results9, go_sem, z0, z1, z2, z3, z4, z5]) rfl ⟨_, _, _, _, _, _, _, _, bs, hs, _, tx, P, cp, zs, by rw [HMB.out, HMH.out, HNP.out]; first | done | rfl, hown, by rw [HMB.out]; exact hlb, by rw [HMH.out]; exact hlh, by omega, by omega, by omega, hint, by first | (simp; done) | (rw [HNP.out]; omega), HBY.out⟩
        · have hxmi : ¬ (x : Int) < (mh : Int) := by omega
          go_upto_region 12 with fail
          clear k0 k1 k2 k3 k4 k5
          obtain ⟨bx, rfl⟩ := HS3.out.some_
          have hxb : x < b0.length := by rw [HNB.out]; exact hx
          obtain ⟨tc, tf⟩ := owns_cell HPr.out.txt x hxb
          obtain ⟨tx, HTX⟩ : ∃ v, Hid (sth b0 x = v) := ⟨_, rfl⟩
          have htx8 : tx.size ≤ 8 := by rw [← HTX.out]; exact HSHT.out x hxb
          rw [HTX.out] at tc
          have hx00 : (0 : Int) ≤ (x : Int) := by omega
          have CL := Lib.hid (sleaves_any _ cX b0 wr HPr.out.txt.ints HSHT.out (by rw [HNB.out]; omega))
          rw [HNB.out] at CL
          have HLL : Hid ((leafL b0).length = nb) := by show _ = _; rw [leafL_length]; exact HNB.out
          clear hxb
          go_wp2_with fail
          refine CL.out.mono ?_
          rintro e wa ⟨Z, cz, rfl, hoz, hba⟩
          rw [HLL.out]
          have HPa := Lib.hid (HPr.out.then_ hba)
          have hltr : w.heap.size + 1 < wr.heap.size := HPr.out.lt
          obtain ⟨zb, zo, hZ⟩ : ∃ b o, Z = some ⟨b, o, none⟩ := by
            rcases hoz.formA with ⟨h, _⟩ | h
            · subst h
              obtain ⟨b, o, e, _⟩ := hoz.ints (by rw [HLL.out]; omega)
              cases e
            · exact h
          subst hZ
          have CP := Lib.hid (sproof_any (leafL b0) (x : Int) zb zo cz wa hoz.ints hoz.le.1 hoz.le.2)
          rw [HLL.out] at CP
          clear hoz hba
          go_wp2_with fail
          refine CP.out.mono ?_
          rintro e wp ⟨P, cp, rfl, hop, hbp⟩
          obtain ⟨zs, HZS⟩ : ∃ v, Hid (proofOr (leafL b0) (x : Int) = v) := ⟨_, rfl⟩
          rw [HZS.out] at hop ⊢
          have hzs6 : zs.length ≤ 6 := by rw [← HZS.out]; exact proofOr_short _ _
          obtain ⟨np, HNP⟩ : ∃ v, Hid (zs.length = v) := ⟨_, rfl⟩
          rw [HNP.out] at hzs6 ⊢
          have HPp := Lib.hid (HPa.out.then_ hbp)
          have hlta : w.heap.size + 1 < wa.heap.size := HPa.out.lt
          have HIPp := Lib.hid hop
          clear hop hbp tc tf
          go_wp2_with fail
          refine (pick_any 10 HPp.out.rd (by omega) (by omega) (by omega)).mono ?_
          rintro e wy ⟨y, hy, rfl, hRy, hgy, hzzy⟩
          have HPy := Lib.hid (HPp.out.pick hRy hgy)
          have HIPy := Lib.hid (HIPp.out.keep hgy (fun i hi => by injection hi with hi; omega))
          clear hRy hgy hzzy
          by_cases hy0 : y = 0
          · subst hy0
            go_wp2_with fail
            refine (drawtext_any HPy.out.rd (by omega)).mono ?_
            rintro e wt ⟨t2, qt, ht2, hqt, rfl, hRt, hgt⟩
            have HPt := Lib.hid (HPy.out.pick hRt hgt)
            have HIPt := Lib.hid (HIPy.out.keep hgt (fun i hi => by injection hi with hi; omega))
            clear hRt hgt
            obtain ⟨k0, k1, k2, k3, k4, k5⟩ := feed_cells HPt.out.kf
            obtain ⟨r0, r1, r2, r3, r4, r5⟩ := feed_cells HPt.out.kr
            have rf := blk_frozen HPt.out.kr
            go_wp2
            obtain ⟨Y, HY⟩ : ∃ Q0, Hid (((((((wt.setCell ⟨w.heap.size, 0, none⟩ (.int .i64 fp)).setCell ⟨w.heap.size, 1, none⟩ (.int .i64 fl)).setCell ⟨w.heap.size, 2, none⟩ (.int .i64 fd)).setCell ⟨w.heap.size, 3, none⟩ (.int .i64 fs)).setCell ⟨w.heap.size, 4, none⟩ (.slice Y1 mb e1)).setCell ⟨w.heap.size, 5, none⟩ (.slice Y2 mh e2)) = Q0) := ⟨_, rfl⟩
            rw [HY.out]
            have HBY : Hid (Below w.heap.size w Y) := by rw [← HY.out]; exact below_six HPt.out.below (Nat.le_refl _) _ _ _ _ _ _
            have KRY : Hid (Blk Y w.heap.size 28 (feedC fp fl fd fs Y1 mb e1 Y2 mh e2)) := by rw [← HY.out]; exact blk_six HPt.out.kr _ _ _ _ _ _
            have hown : OwnFeed Y w.heap.size Y1 e1 Y2 e2 bs hs := by rw [← HY.out]; exact (own_six HPt.out.own HPt.out.kr _ _ _ _ _ _).base_le (by omega)
            have hint : OwnInts Y w.heap.size P cp zs := by rw [← HY.out]; exact (ints_six HIPt.out (by omega) _ _ _ _ _ _).base_le (by omega)
            obtain ⟨z0, z1, z2, z3, z4, z5⟩ := feed_cells KRY.out
            exact bodyPost_ret (v := .tuple #[feedV fp fl fd fs Y1 mb e1 Y2 mh e2, .int .i64 ((x : Int)), .string t2, .slice P np cp]) (by simp [results, Tryd.results9, go_sem, z0, z1, z2, z3, z4, z5]) rfl ⟨_, _, _, _, _, _, _, _, bs, hs, _, t2, P, cp, zs, by rw [HMB.out, HMH.out, HNP.out]; first | done | rfl, hown, by rw [HMB.out]; exact hlb, by rw [HMH.out]; exact hlh, ht2, by omega, by omega, hint, by first | (simp; done) | (rw [HNP.out]; omega), HBY.out⟩
          · have hy0i : ((y : Int) == 0) = false := by rw [beq_eq_false_iff_ne]; omega
            by_cases hy1 : y = 1
            · subst hy1
              go_wp2_with fail
              refine (pick_any 18 HPy.out.rd (by omega) (by omega) (by omega)).mono ?_
              rintro e wt ⟨u, hu, rfl, hRt, hgt, hzzt⟩
              have HPt := Lib.hid (HPy.out.pick hRt hgt)
              have HIPt := Lib.hid (HIPy.out.keep hgt (fun i hi => by injection hi with hi; omega))
              clear hRt hgt hzzt
              have hu0 : (0 : Int) ≤ (u : Int) := by omega
              have hu1 : (u : Int) ≤ 18 := by omega
              obtain ⟨k0, k1, k2, k3, k4, k5⟩ := feed_cells HPt.out.kf
              obtain ⟨r0, r1, r2, r3, r4, r5⟩ := feed_cells HPt.out.kr
              have rf := blk_frozen HPt.out.kr
              go_wp2
              obtain ⟨Y, HY⟩ : ∃ Q0, Hid (((((((wt.setCell ⟨w.heap.size, 0, none⟩ (.int .i64 fp)).setCell ⟨w.heap.size, 1, none⟩ (.int .i64 fl)).setCell ⟨w.heap.size, 2, none⟩ (.int .i64 fd)).setCell ⟨w.heap.size, 3, none⟩ (.int .i64 fs)).setCell ⟨w.heap.size, 4, none⟩ (.slice Y1 mb e1)).setCell ⟨w.heap.size, 5, none⟩ (.slice Y2 mh e2)) = Q0) := ⟨_, rfl⟩
              rw [HY.out]
              have HBY : Hid (Below w.heap.size w Y) := by rw [← HY.out]; exact below_six HPt.out.below (Nat.le_refl _) _ _ _ _ _ _
              have KRY : Hid (Blk Y w.heap.size 28 (feedC fp fl fd fs Y1 mb e1 Y2 mh e2)) := by rw [← HY.out]; exact blk_six HPt.out.kr _ _ _ _ _ _
              have hown : OwnFeed Y w.heap.size Y1 e1 Y2 e2 bs hs := by rw [← HY.out]; exact (own_six HPt.out.own HPt.out.kr _ _ _ _ _ _).base_le (by omega)
              have hint : OwnInts Y w.heap.size P cp zs := by rw [← HY.out]; exact (ints_six HIPt.out (by omega) _ _ _ _ _ _).base_le (by omega)
              obtain ⟨z0, z1, z2, z3, z4, z5⟩ := feed_cells KRY.out
              exact bodyPost_ret (v := .tuple #[feedV fp fl fd fs Y1 mb e1 Y2 mh e2, .int .i64 ((u : Int) - 1), .string tx, .slice P np cp]) (by simp [results, Tryd.results9, go_sem, z0, z1, z2, z3, z4, z5]) rfl ⟨_, _, _, _, _, _, _, _, bs, hs, _, tx, P, cp, zs, by rw [HMB.out, HMH.out, HNP.out]; first | done | rfl, hown, by rw [HMB.out]; exact hlb, by rw [HMH.out]; exact hlh, by omega, by omega, by omega, hint, by first | (simp; done) | (rw [HNP.out]; omega), HBY.out⟩
            · have hy1i : ((y : Int) == 1) = false := by rw [beq_eq_false_iff_ne]; omega
              by_cases hy2 : y = 2
              · subst hy2
                have CB := Lib.hid (bendG_any HPy.out.rd (by omega) P cp zs HIPy.out.ints (by rw [HNP.out]; omega) (fun e => by rcases HIPy.out.formA with ⟨_, h⟩ | ⟨b, o, h⟩; exact h; rw [h] at e; cases e))
                rw [HNP.out] at CB
                go_wp2_with fail
                refine CB.out.mono ?_
                rintro e wt ⟨P2, cp2, zs2, q2b, rfl, hz2b, hq2b, hrd⟩
                have hltY : w.heap.size + 1 < wy.heap.size := HPy.out.lt
                have HPt := Lib.hid (HPy.out.pick hrd.rd hrd.grown)
                have HIPt := Lib.hid hrd.own
                obtain ⟨np2, HNP2⟩ : ∃ v, Hid (zs2.length = v) := ⟨_, rfl⟩
                rw [HNP2.out] at hz2b ⊢
                clear hrd HNP
                have HNP := HNP2
                obtain ⟨k0, k1, k2, k3, k4, k5⟩ := feed_cells HPt.out.kf
                obtain ⟨r0, r1, r2, r3, r4, r5⟩ := feed_cells HPt.out.kr
                have rf := blk_frozen HPt.out.kr
                go_wp2
                obtain ⟨Y, HY⟩ : ∃ Q0, Hid (((((((wt.setCell ⟨w.heap.size, 0, none⟩ (.int .i64 fp)).setCell ⟨w.heap.size, 1, none⟩ (.int .i64 fl)).setCell ⟨w.heap.size, 2, none⟩ (.int .i64 fd)).setCell ⟨w.heap.size, 3, none⟩ (.int .i64 fs)).setCell ⟨w.heap.size, 4, none⟩ (.slice Y1 mb e1)).setCell ⟨w.heap.size, 5, none⟩ (.slice Y2 mh e2)) = Q0) := ⟨_, rfl⟩
                rw [HY.out]
                have HBY : Hid (Below w.heap.size w Y) := by rw [← HY.out]; exact below_six HPt.out.below (Nat.le_refl _) _ _ _ _ _ _
                have KRY : Hid (Blk Y w.heap.size 28 (feedC fp fl fd fs Y1 mb e1 Y2 mh e2)) := by rw [← HY.out]; exact blk_six HPt.out.kr _ _ _ _ _ _
                have hown : OwnFeed Y w.heap.size Y1 e1 Y2 e2 bs hs := by rw [← HY.out]; exact (own_six HPt.out.own HPt.out.kr _ _ _ _ _ _).base_le (by omega)
                have hint : OwnInts Y w.heap.size P2 cp2 zs2 := by rw [← HY.out]; exact (ints_six HIPt.out (by omega) _ _ _ _ _ _).base_le (by omega)
                obtain ⟨z0, z1, z2, z3, z4, z5⟩ := feed_cells KRY.out
                exact bodyPost_ret (v := .tuple #[feedV fp fl fd fs Y1 mb e1 Y2 mh e2, .int .i64 ((x : Int)), .string tx, .slice P2 np2 cp2]) (by simp [results, Tryd.results9, go_sem, z0, z1, z2, z3, z4, z5]) rfl ⟨_, _, _, _, _, _, _, _, bs, hs, _, tx, P2, cp2, zs2, by rw [HMB.out, HMH.out, HNP2.out]; first | done | rfl, hown, by rw [HMB.out]; exact hlb, by rw [HMH.out]; exact hlh, by omega, by omega, by omega, hint, by first | (simp; done) | (rw [HNP.out]; omega), HBY.out⟩
              · have hy2i : ((y : Int) == 2) = false := by rw [beq_eq_false_iff_ne]; omega
                obtain ⟨k0, k1, k2, k3, k4, k5⟩ := feed_cells HPy.out.kf
                obtain ⟨r0, r1, r2, r3, r4, r5⟩ := feed_cells HPy.out.kr
                have rf := blk_frozen HPy.out.kr
                go_wp2
                obtain ⟨Y, HY⟩ : ∃ Q0, Hid (((((((wy.setCell ⟨w.heap.size, 0, none⟩ (.int .i64 fp)).setCell ⟨w.heap.size, 1, none⟩ (.int .i64 fl)).setCell ⟨w.heap.size, 2, none⟩ (.int .i64 fd)).setCell ⟨w.heap.size, 3, none⟩ (.int .i64 fs)).setCell ⟨w.heap.size, 4, none⟩ (.slice Y1 mb e1)).setCell ⟨w.heap.size, 5, none⟩ (.slice Y2 mh e2)) = Q0) := ⟨_, rfl⟩
                rw [HY.out]
                have HBY : Hid (Below w.heap.size w Y) := by rw [← HY.out]; exact below_six HPy.out.below (Nat.le_refl _) _ _ _ _ _ _
                have KRY : Hid (Blk Y w.heap.size 28 (feedC fp fl fd fs Y1 mb e1 Y2 mh e2)) := by rw [← HY.out]; exact blk_six HPy.out.kr _ _ _ _ _ _
                have hown : OwnFeed Y w.heap.size Y1 e1 Y2 e2 bs hs := by rw [← HY.out]; exact (own_six HPy.out.own HPy.out.kr _ _ _ _ _ _).base_le (by omega)
                have hint : OwnInts Y w.heap.size P cp zs := by rw [← HY.out]; exact (ints_six HIPy.out (by omega) _ _ _ _ _ _).base_le (by omega)
                obtain ⟨z0, z1, z2, z3, z4, z5⟩ := feed_cells KRY.out
                exact bodyPost_ret (v := .tuple #[feedV fp fl fd fs Y1 mb e1 Y2 mh e2, .int .i64 ((x : Int)), .string tx, .slice P np cp]) (by simp [results, Tryd.results9, go_sem, z0, z1, z2, z3, z4, z5]) rfl ⟨_, _, _, _, _, _, _, _, bs, hs, _, tx, P, cp, zs, by rw [HMB.out, HMH.out, HNP.out]; first | done | rfl, hown, by rw [HMB.out]; exact hlb, by rw [HMH.out]; exact hlh, by omega, by omega, by omega, hint, by first | (simp; done) | (rw [HNP.out]; omega), HBY.out⟩
      · have hk6i : ¬ (k : Int) < 6 := by omega
        go_upto_region 12 with fail
        clear k0 k1 k2 k3 k4 k5
        obtain ⟨bx, rfl⟩ := HS3.out.some_
        have hxb : x < b0.length := by rw [HNB.out]; exact hx
        obtain ⟨tc, tf⟩ := owns_cell HPr.out.txt x hxb
        obtain ⟨tx, HTX⟩ : ∃ v, Hid (sth b0 x = v) := ⟨_, rfl⟩
        have htx8 : tx.size ≤ 8 := by rw [← HTX.out]; exact HSHT.out x hxb
        rw [HTX.out] at tc
        have hx00 : (0 : Int) ≤ (x : Int) := by omega
        have CL := Lib.hid (sleaves_any _ cX b0 wr HPr.out.txt.ints HSHT.out (by rw [HNB.out]; omega))
        rw [HNB.out] at CL
        have HLL : Hid ((leafL b0).length = nb) := by show _ = _; rw [leafL_length]; exact HNB.out
        clear hxb
        go_wp2_with fail
        refine CL.out.mono ?_
        rintro e wa ⟨Z, cz, rfl, hoz, hba⟩
        rw [HLL.out]
        have HPa := Lib.hid (HPr.out.then_ hba)
        have hltr : w.heap.size + 1 < wr.heap.size := HPr.out.lt
        obtain ⟨zb, zo, hZ⟩ : ∃ b o, Z = some ⟨b, o, none⟩ := by
          rcases hoz.formA with ⟨h, _⟩ | h
          · subst h
            obtain ⟨b, o, e, _⟩ := hoz.ints (by rw [HLL.out]; omega)
            cases e
          · exact h
        subst hZ
        have CP := Lib.hid (sproof_any (leafL b0) (x : Int) zb zo cz wa hoz.ints hoz.le.1 hoz.le.2)
        rw [HLL.out] at CP
        clear hoz hba
        go_wp2_with fail
        refine CP.out.mono ?_
        rintro e wp ⟨P, cp, rfl, hop, hbp⟩
        obtain ⟨zs, HZS⟩ : ∃ v, Hid (proofOr (leafL b0) (x : Int) = v) := ⟨_, rfl⟩
        rw [HZS.out] at hop ⊢
        have hzs6 : zs.length ≤ 6 := by rw [← HZS.out]; exact proofOr_short _ _
        obtain ⟨np, HNP⟩ : ∃ v, Hid (zs.length = v) := ⟨_, rfl⟩
        rw [HNP.out] at hzs6 ⊢
        have HPp := Lib.hid (HPa.out.then_ hbp)
        have hlta : w.heap.size + 1 < wa.heap.size := HPa.out.lt
        have HIPp := Lib.hid hop
        clear hop hbp tc tf
        go_wp2_with fail
        refine (pick_any 10 HPp.out.rd (by omega) (by omega) (by omega)).mono ?_
        rintro e wy ⟨y, hy, rfl, hRy, hgy, hzzy⟩
        have HPy := Lib.hid (HPp.out.pick hRy hgy)
        have HIPy := Lib.hid (HIPp.out.keep hgy (fun i hi => by injection hi with hi; omega))
        clear hRy hgy hzzy
        by_cases hy0 : y = 0
        · subst hy0
          go_wp2_with fail
          refine (drawtext_any HPy.out.rd (by omega)).mono ?_
          rintro e wt ⟨t2, qt, ht2, hqt, rfl, hRt, hgt⟩
          have HPt := Lib.hid (HPy.out.pick hRt hgt)
          have HIPt := Lib.hid (HIPy.out.keep hgt (fun i hi => by injection hi with hi; omega))
          clear hRt hgt
          obtain ⟨k0, k1, k2, k3, k4, k5⟩ := feed_cells HPt.out.kf
          obtain ⟨r0, r1, r2, r3, r4, r5⟩ := feed_cells HPt.out.kr
          have rf := blk_frozen HPt.out.kr
          go_wp2
          obtain ⟨Y, HY⟩ : ∃ Q0, Hid (((((((wt.setCell ⟨w.heap.size, 0, none⟩ (.int .i64 fp)).setCell ⟨w.heap.size, 1, none⟩ (.int .i64 fl)).setCell ⟨w.heap.size, 2, none⟩ (.int .i64 fd)).setCell ⟨w.heap.size, 3, none⟩ (.int .i64 fs)).setCell ⟨w.heap.size, 4, none⟩ (.slice Y1 mb e1)).setCell ⟨w.heap.size, 5, none⟩ (.slice Y2 mh e2)) = Q0) := ⟨_, rfl⟩
          rw [HY.out]
          have HBY : Hid (Below w.heap.size w Y) := by rw [← HY.out]; exact below_six HPt.out.below (Nat.le_refl _) _ _ _ _ _ _
          have KRY : Hid (Blk Y w.heap.size 28 (feedC fp fl fd fs Y1 mb e1 Y2 mh e2)) := by rw [← HY.out]; exact blk_six HPt.out.kr _ _ _ _ _ _
          have hown : OwnFeed Y w.heap.size Y1 e1 Y2 e2 bs hs := by rw [← HY.out]; exact (own_six HPt.out.own HPt.out.kr _ _ _ _ _ _).base_le (by omega)
          have hint : OwnInts Y w.heap.size P cp zs := by rw [← HY.out]; exact (ints_six HIPt.out (by omega) _ _ _ _ _ _).base_le (by omega)
          obtain ⟨z0, z1, z2, z3, z4, z5⟩ := feed_cells KRY.out
          exact bodyPost_ret (v := .tuple #[feedV fp fl fd fs Y1 mb e1 Y2 mh e2, .int .i64 ((x : Int)), .string t2, .slice P np cp]) (by simp [results, Tryd.results9, go_sem, z0, z1, z2, z3, z4, z5]) rfl ⟨_, _, _, _, _, _, _, _, bs, hs, _, t2, P, cp, zs, by rw [HMB.out, HMH.out, HNP.out]; first | done | rfl, hown, by rw [HMB.out]; exact hlb, by rw [HMH.out]; exact hlh, ht2, by omega, by omega, hint, by first | (simp; done) | (rw [HNP.out]; omega), HBY.out⟩
        · have hy0i : ((y : Int) == 0) = false := by rw [beq_eq_false_iff_ne]; omega
          by_cases hy1 : y = 1
          · subst hy1
            go_wp2_with fail
            refine (pick_any 18 HPy.out.rd (by omega) (by omega) (by omega)).mono ?_
            rintro e wt ⟨u, hu, rfl, hRt, hgt, hzzt⟩
            have HPt := Lib.hid (HPy.out.pick hRt hgt)
            have HIPt := Lib.hid (HIPy.out.keep hgt (fun i hi => by injection hi with hi; omega))
            clear hRt hgt hzzt
            have hu0 : (0 : Int) ≤ (u : Int) := by omega
            have hu1 : (u : Int) ≤ 18 := by omega
            obtain ⟨k0, k1, k2, k3, k4, k5⟩ := feed_cells HPt.out.kf
            obtain ⟨r0, r1, r2, r3, r4, r5⟩ := feed_cells HPt.out.kr
            have rf := blk_frozen HPt.out.kr
            go_wp2
            obtain ⟨Y, HY⟩ : ∃ Q0, Hid (((((((wt.setCell ⟨w.heap.size, 0, none⟩ (.int .i64 fp)).setCell ⟨w.heap.size, 1, none⟩ (.int .i64 fl)).setCell ⟨w.heap.size, 2, none⟩ (.int .i64 fd)).setCell ⟨w.heap.size, 3, none⟩ (.int .i64 fs)).setCell ⟨w.heap.size, 4, none⟩ (.slice Y1 mb e1)).setCell ⟨w.heap.size, 5, none⟩ (.slice Y2 mh e2)) = Q0) := ⟨_, rfl⟩
            rw [HY.out]
            have HBY : Hid (Below w.heap.size w Y) := by rw [← HY.out]; exact below_six HPt.out.below (Nat.le_refl _) _ _ _ _ _ _
            have KRY : Hid (Blk Y w.heap.size 28 (feedC fp fl fd fs Y1 mb e1 Y2 mh e2)) := by rw [← HY.out]; exact blk_six HPt.out.kr _ _ _ _ _ _
            have hown : OwnFeed Y w.heap.size Y1 e1 Y2 e2 bs hs := by rw [← HY.out]; exact (own_six HPt.out.own HPt.out.kr _ _ _ _ _ _).base_le (by omega)
            have hint : OwnInts Y w.heap.size P cp zs := by rw [← HY.out]; exact (ints_six HIPt.out (by omega) _ _ _ _ _ _).base_le (by omega)
            obtain ⟨z0, z1, z2, z3, z4, z5⟩ := feed_cells KRY.out
            exact bodyPost_ret (v := .tuple #[feedV fp fl fd fs Y1 mb e1 Y2 mh e2, .int .i64 ((u : Int) - 1), .string tx, .slice P np cp]) (by simp [results, Tryd.results9, go_sem, z0, z1, z2, z3, z4, z5]) rfl ⟨_, _, _, _, _, _, _, _, bs, hs, _, tx, P, cp, zs, by rw [HMB.out, HMH.out, HNP.out]; first | done | rfl, hown, by rw [HMB.out]; exact hlb, by rw [HMH.out]; exact hlh, by omega, by omega, by omega, hint, by first | (simp; done) | (rw [HNP.out]; omega), HBY.out⟩
          · have hy1i : ((y : Int) == 1) = false := by rw [beq_eq_false_iff_ne]; omega
            by_cases hy2 : y = 2
            · subst hy2
              have CB := Lib.hid (bendG_any HPy.out.rd (by omega) P cp zs HIPy.out.ints (by rw [HNP.out]; omega) (fun e => by rcases HIPy.out.formA with ⟨_, h⟩ | ⟨b, o, h⟩; exact h; rw [h] at e; cases e))
              rw [HNP.out] at CB
              go_wp2_with fail
              refine CB.out.mono ?_
              rintro e wt ⟨P2, cp2, zs2, q2b, rfl, hz2b, hq2b, hrd⟩
              have hltY : w.heap.size + 1 < wy.heap.size := HPy.out.lt
              have HPt := Lib.hid (HPy.out.pick hrd.rd hrd.grown)
              have HIPt := Lib.hid hrd.own
              obtain ⟨np2, HNP2⟩ : ∃ v, Hid (zs2.length = v) := ⟨_, rfl⟩
              rw [HNP2.out] at hz2b ⊢
              clear hrd HNP
              have HNP := HNP2
              obtain ⟨k0, k1, k2, k3, k4, k5⟩ := feed_cells HPt.out.kf
              obtain ⟨r0, r1, r2, r3, r4, r5⟩ := feed_cells HPt.out.kr
              have rf := blk_frozen HPt.out.kr
              go_wp2
              obtain ⟨Y, HY⟩ : ∃ Q0, Hid (((((((wt.setCell ⟨w.heap.size, 0, none⟩ (.int .i64 fp)).setCell ⟨w.heap.size, 1, none⟩ (.int .i64 fl)).setCell ⟨w.heap.size, 2, none⟩ (.int .i64 fd)).setCell ⟨w.heap.size, 3, none⟩ (.int .i64 fs)).setCell ⟨w.heap.size, 4, none⟩ (.slice Y1 mb e1)).setCell ⟨w.heap.size, 5, none⟩ (.slice Y2 mh e2)) = Q0) := ⟨_, rfl⟩
              rw [HY.out]
              have HBY : Hid (Below w.heap.size w Y) := by rw [← HY.out]; exact below_six HPt.out.below (Nat.le_refl _) _ _ _ _ _ _
              have KRY : Hid (Blk Y w.heap.size 28 (feedC fp fl fd fs Y1 mb e1 Y2 mh e2)) := by rw [← HY.out]; exact blk_six HPt.out.kr _ _ _ _ _ _
              have hown : OwnFeed Y w.heap.size Y1 e1 Y2 e2 bs hs := by rw [← HY.out]; exact (own_six HPt.out.own HPt.out.kr _ _ _ _ _ _).base_le (by omega)
              have hint : OwnInts Y w.heap.size P2 cp2 zs2 := by rw [← HY.out]; exact (ints_six HIPt.out (by omega) _ _ _ _ _ _).base_le (by omega)
              obtain ⟨z0, z1, z2, z3, z4, z5⟩ := feed_cells KRY.out
              exact bodyPost_ret (v := .tuple #[feedV fp fl fd fs Y1 mb e1 Y2 mh e2, .int .i64 ((x : Int)), .string tx, .slice P2 np2 cp2]) (by simp [results, Tryd.results9, go_sem, z0, z1, z2, z3, z4, z5]) rfl ⟨_, _, _, _, _, _, _, _, bs, hs, _, tx, P2, cp2, zs2, by rw [HMB.out, HMH.out, HNP2.out]; first | done | rfl, hown, by rw [HMB.out]; exact hlb, by rw [HMH.out]; exact hlh, by omega, by omega, by omega, hint, by first | (simp; done) | (rw [HNP.out]; omega), HBY.out⟩
            · have hy2i : ((y : Int) == 2) = false := by rw [beq_eq_false_iff_ne]; omega
              obtain ⟨k0, k1, k2, k3, k4, k5⟩ := feed_cells HPy.out.kf
              obtain ⟨r0, r1, r2, r3, r4, r5⟩ := feed_cells HPy.out.kr
              have rf := blk_frozen HPy.out.kr
              go_wp2
              obtain ⟨Y, HY⟩ : ∃ Q0, Hid (((((((wy.setCell ⟨w.heap.size, 0, none⟩ (.int .i64 fp)).setCell ⟨w.heap.size, 1, none⟩ (.int .i64 fl)).setCell ⟨w.heap.size, 2, none⟩ (.int .i64 fd)).setCell ⟨w.heap.size, 3, none⟩ (.int .i64 fs)).setCell ⟨w.heap.size, 4, none⟩ (.slice Y1 mb e1)).setCell ⟨w.heap.size, 5, none⟩ (.slice Y2 mh e2)) = Q0) := ⟨_, rfl⟩
              rw [HY.out]
              have HBY : Hid (Below w.heap.size w Y) := by rw [← HY.out]; exact below_six HPy.out.below (Nat.le_refl _) _ _ _ _ _ _
              have KRY : Hid (Blk Y w.heap.size 28 (feedC fp fl fd fs Y1 mb e1 Y2 mh e2)) := by rw [← HY.out]; exact blk_six HPy.out.kr _ _ _ _ _ _
              have hown : OwnFeed Y w.heap.size Y1 e1 Y2 e2 bs hs := by rw [← HY.out]; exact (own_six HPy.out.own HPy.out.kr _ _ _ _ _ _).base_le (by omega)
              have hint : OwnInts Y w.heap.size P cp zs := by rw [← HY.out]; exact (ints_six HIPy.out (by omega) _ _ _ _ _ _).base_le (by omega)
              obtain ⟨z0, z1, z2, z3, z4, z5⟩ := feed_cells KRY.out
              exact bodyPost_ret (v := .tuple #[feedV fp fl fd fs Y1 mb e1 Y2 mh e2, .int .i64 ((x : Int)), .string tx, .slice P np cp]) (by simp [results, Tryd.results9, go_sem, z0, z1, z2, z3, z4, z5]) rfl ⟨_, _, _, _, _, _, _, _, bs, hs, _, tx, P, cp, zs, by rw [HMB.out, HMH.out, HNP.out]; first | done | rfl, hown, by rw [HMB.out]; exact hlb, by rw [HMH.out]; exact hlh, by omega, by omega, by omega, hint, by first | (simp; done) | (rw [HNP.out]; omega), HBY.out⟩

end Go.Proofs.YtgklkceoafohmaaDoor
