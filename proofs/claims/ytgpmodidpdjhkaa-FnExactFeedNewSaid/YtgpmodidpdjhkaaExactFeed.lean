/- Contracts of the exact laws' helpers over feeds: szFeed, toFeed, markFeed, heldFeed. Conditions: the feeds lie in memory and have at most 2^20 elements. -/
import Derived.Test.YtgpmodidpdjhkaaExactStrs
import Derived.Test.YtgpmodidpdjhkaaExactHead
import Derived.Test.YtgpmodidpdjhkaaFeedNew
import Derived.Test.YtgpmodidpdjhkaaExactKeep
namespace Go.Proofs.Ytgpmodidpdjhkaa
open Go.RowKit
set_option linter.unusedVariables false

theorem owns_block {w w' : World} {base : Nat} {A : Option Addr} {cap : Nat} {zs : List ByteArray} (h : OwnStrs w base A cap zs) (hk : ∀ g, A = some ⟨g, 0, none⟩ → w'.heap[g]? = w.heap[g]?) : OwnStrs w' base A cap zs := by
  refine ⟨h.1, ?_⟩
  rcases h.2 with h0 | ⟨g, c, cur, hv, hg, hgb, hr⟩
  · exact .inl h0
  · have hA : A = some ⟨g, 0, none⟩ := by injection hv
    exact .inr ⟨g, c, cur, hv, hg, (hk g hA).trans hgb, hr⟩

/-- What a count of the size of a list answers: at least 0 only if the list is short. -/
def SzS (left : Int) (n : Nat) (w : World) (e : Ending) (w' : World) : Prop := ∃ r : Int, e = .returned (.int .i64 r) ∧ -1 ≤ r ∧ r ≤ left ∧ (0 ≤ r → (n : Int) ≤ left) ∧ w = w'

set_option maxHeartbeats 2000000 in
theorem szStr_any (A : Option Addr) (cap : Nat) (bs : List ByteArray) (left : Int) (w : World) (hI : StrsAt w w.heap.size A bs) (hf : Fit bs) (hm : bs.length ≤ maxLen) (h0 : 0 ≤ left) (h1 : left ≤ 1048576) :
    Calls Try.prog 77 #[.slice A bs.length cap, .int .i64 left] w (SzS left bs.length w) := by
  unfold maxLen at hm
  have HI := Lib.hid hI
  have HF := Lib.hid hf
  obtain ⟨n, HN⟩ : ∃ n, Hid (bs.length = n) := ⟨_, rfl⟩
  rw [HN.out] at hm ⊢
  clear hI hf
  by_cases hl : (n : Int) ≤ left
  · go_enter Try.func77, Try.ntmps77
    go_wp2
    go_loop [1, 5] (fun x i => ∃ (k : Nat) (r : Int), k ≤ n ∧ i = .int .i64 k ∧ x = .int .i64 r ∧ 0 ≤ r ∧ r ≤ left) (fun _ i => n - (intOf i).toNat)
    case atStart => exact ⟨0, left - n, Nat.zero_le _, rfl, by go_num, by omega, by omega⟩
    case round =>
      obtain ⟨k, r, hk, rfl, rfl, hr0, hr1⟩ := hrel
      by_cases hlt : k < n
      · have hlz : k < bs.length := by rw [HN.out]; exact hlt
        obtain ⟨b, o, rfl, hb, hc⟩ := HI.out (by omega)
        have hck := hc k hlz
        have hfit := HF.out k
        unfold maxLen at hfit
        have hki : (k : Int) < (n : Int) := by omega
        obtain ⟨t, HT⟩ : ∃ t, Hid (sth bs k = t) := ⟨_, rfl⟩
        rw [HT.out] at hck hfit
        clear hc hlz
        by_cases hrt : (t.size : Int) ≤ r
        · go_wp2
          go_round
          case rel => exact ⟨k + 1, r - t.size, by omega, by go_num, by go_num, by omega, by omega⟩
          case measure => simp [intOf]; omega
        · go_wp2
          go_ret
          exact ⟨-1, rfl, by omega, by omega, fun h => by omega, rfl⟩
      · go_wp2
        go_ret
        exact ⟨r, rfl, by omega, by omega, fun _ => hl, rfl⟩
  · go_enter Try.func77, Try.ntmps77
    go_wp2
    go_ret
    exact ⟨-1, rfl, by omega, by omega, by omega, rfl⟩

set_option maxHeartbeats 2000000 in
theorem szBool_any (A : Option Addr) (n cap : Nat) (left : Int) (w : World) (hm : n ≤ maxLen) (h0 : 0 ≤ left) (h1 : left ≤ 1048576) :
    Calls Try.prog 78 #[.slice A n cap, .int .i64 left] w (SzS left n w) := by
  unfold maxLen at hm
  by_cases hl : (n : Int) ≤ left
  · go_enter Try.func78, Try.ntmps78
    go_wp2
    go_ret
    exact ⟨left - n, rfl, by omega, by omega, fun _ => hl, rfl⟩
  · go_enter Try.func78, Try.ntmps78
    go_wp2
    go_ret
    exact ⟨-1, rfl, by omega, by omega, by omega, rfl⟩

/-- What szFeed answers: at least 0 only if the lists are short. -/
def Sized (w : World) (bs : List ByteArray) (hs : List Bool) (e : Ending) (w' : World) : Prop :=
  ∃ r : Int, e = .returned (.int .i64 r) ∧ -1 ≤ r ∧ r ≤ 1048576 ∧ (0 ≤ r → bs.length ≤ 1048576 ∧ hs.length ≤ 1048576) ∧ Below w.heap.size w w'

set_option maxHeartbeats 2000000 in
set_option maxRecDepth 100000 in
theorem szFeed_any (p l d s : Int) (A1 : Option Addr) (c1 : Nat) (A2 : Option Addr) (c2 : Nat) (bs : List ByteArray) (hs : List Bool) (w : World) (hF : FeedAt w w.heap.size A1 A2 bs hs) :
    Calls Try.prog 29 #[feedV p l d s A1 bs.length c1 A2 hs.length c2, .int .i64 1048576] w (Sized w bs hs) := by
  have HF := Lib.hid hF
  have hlb := hF.lb
  have hlh := hF.lh
  clear hF
  have hbel : Below w.heap.size w (w.alloc (.cells (feedC p l d s A1 bs.length c1 A2 hs.length c2) 52)) := (Below.refl _ w).alloc (Nat.le_refl _) _
  have HB := Lib.hid hbel
  have C1 := Lib.hid (szStr_any A1 c1 bs 1048576 _ (HF.out.belowS hbel).strs HF.out.fit hlb (by omega) (by omega))
  clear hbel
  obtain ⟨m, HM⟩ : ∃ m, Hid (bs.length = m) := ⟨_, rfl⟩
  obtain ⟨n, HN⟩ : ∃ n, Hid (hs.length = n) := ⟨_, rfl⟩
  have FIN : Hid (∀ (r : Int) (W : World), -1 ≤ r → r ≤ 1048576 → (0 ≤ r → m ≤ 1048576 ∧ n ≤ 1048576) → Below w.heap.size w W → Sized w bs hs (.returned (.int .i64 r)) W) := fun r W h0 h1 h2 h3 => ⟨r, rfl, h0, h1, by rw [HM.out, HN.out]; exact h2, h3⟩
  rw [HM.out] at hlb C1 HB ⊢
  rw [HN.out] at hlh C1 HB ⊢
  go_enter Try.func29, Try.ntmps29
  go_wp2_with fail
  refine C1.out.mono ?_
  rintro e w1 ⟨r, rfl, hr0, hr1, hr2, rfl⟩
  by_cases hr : 0 ≤ r
  · have hr2' := hr2 hr
    clear hr2
    go_wp2_with fail
    refine (szBool_any A2 n c2 r _ hlh hr hr1).mono ?_
    rintro e w2 ⟨q, rfl, hq0, hq1, hq2, rfl⟩
    by_cases hq : 0 ≤ q
    · have hq2' := hq2 hq
      clear hq2
      go_wp2
      go_ret
      exact FIN.out _ _ (by omega) (by omega) (fun _ => ⟨by omega, by omega⟩) HB.out
    · clear hq2
      go_wp2
      go_ret
      exact FIN.out _ _ (by omega) (by omega) (fun h => by omega) HB.out
  · clear hr2
    go_wp2
    go_ret
    exact FIN.out _ _ (by omega) (by omega) (fun h => by omega) HB.out

/-- What toFeed hands back: the feed in memory of its own. -/
def CopiedF (w : World) (p l d s : Int) (bs : List ByteArray) (hs : List Bool) (e : Ending) (w' : World) : Prop :=
  ∃ g1 g2, e = .returned (feedV p l d s (some ⟨g1, 0, none⟩) bs.length bs.length (some ⟨g2, 0, none⟩) hs.length hs.length) ∧ OwnFeed w' w.heap.size (some ⟨g1, 0, none⟩) bs.length (some ⟨g2, 0, none⟩) hs.length bs hs ∧ Below w.heap.size w w'

set_option maxHeartbeats 2000000 in
set_option maxRecDepth 100000 in
theorem toFeed_any (p l d s : Int) (A1 : Option Addr) (c1 : Nat) (A2 : Option Addr) (c2 : Nat) (bs : List ByteArray) (hs : List Bool) (w : World) (hF : FeedAt w w.heap.size A1 A2 bs hs) (hlb : bs.length ≤ 1048576) (hlh : hs.length ≤ 1048576) :
    Calls Try.prog 30 #[feedV p l d s A1 bs.length c1 A2 hs.length c2] w (CopiedF w p l d s bs hs) := by
  have HF := Lib.hid hF
  clear hF
  go_enter Try.func30, Try.ntmps30
  obtain ⟨W, HW⟩ : ∃ W, Hid (((w.alloc (.cells (feedC p l d s A1 bs.length c1 A2 hs.length c2) 52)).alloc (.cells (feedC 0 0 0 0 none 0 0 none 0 0) 29)).alloc (.cells (feedC p 0 0 0 none 0 0 none 0 0) 29) = W) := ⟨_, rfl⟩
  have HB : Hid (Below w.heap.size w W) := by rw [← HW.out]; exact (((Below.refl _ w).alloc (Nat.le_refl _) _).alloc (by simp) _).alloc (by simp; omega) _
  have hz : w.heap.size + 3 ≤ W.heap.size := by rw [← HW.out]; simp
  have KP : Hid (Blk W w.heap.size 52 (feedC p l d s A1 bs.length c1 A2 hs.length c2)) := by rw [← HW.out]; exact ((Blk.new w 52 _).alloc _).alloc _
  have KR : Hid (Blk W (w.heap.size + 1) 29 (feedC 0 0 0 0 none 0 0 none 0 0)) := by
    rw [← HW.out]
    have h := (Blk.new (w.alloc (.cells (feedC p l d s A1 bs.length c1 A2 hs.length c2) 52)) 29 (feedC 0 0 0 0 none 0 0 none 0 0)).alloc (.cells (feedC p 0 0 0 none 0 0 none 0 0) 29)
    rw [World.size_alloc] at h
    exact h
  have KO : Hid (Blk W (w.heap.size + 1 + 1) 29 (feedC p 0 0 0 none 0 0 none 0 0)) := by
    rw [← HW.out]
    have h := Blk.new ((w.alloc (.cells (feedC p l d s A1 bs.length c1 A2 hs.length c2) 52)).alloc (.cells (feedC 0 0 0 0 none 0 0 none 0 0) 29)) 29 (feedC p 0 0 0 none 0 0 none 0 0)
    rw [World.size_alloc, World.size_alloc] at h
    exact h
  go_wp2_with fail
  rw [HW.out]
  refine (toHead_any l d s _).mono ?_
  rintro e w1 ⟨rfl, hb1⟩
  have HB1 : Hid (Below w.heap.size w w1) := HB.out.trans (hb1.mono HB.out.size)
  have hz1 : w.heap.size + 3 ≤ w1.heap.size := by have := hb1.size; omega
  have KP1 := Lib.hid (KP.out.below hb1 (by omega))
  have KR1 := Lib.hid (KR.out.below hb1 (by omega))
  have KO1 := Lib.hid (KO.out.below hb1 (by omega))
  obtain ⟨a0, a1, a2, a3, a4, a5⟩ := feed_cells KP1.out
  obtain ⟨o0, o1, o2, o3, o4, o5⟩ := feed_cells KO1.out
  have of := blk_frozen KO1.out
  clear hb1
  obtain ⟨V, HV⟩ : ∃ V, Hid (((w1.setCell ⟨w.heap.size + 1 + 1, 1, none⟩ (.int .i64 l)).setCell ⟨w.heap.size + 1 + 1, 2, none⟩ (.int .i64 d)).setCell ⟨w.heap.size + 1 + 1, 3, none⟩ (.int .i64 s) = V) := ⟨_, rfl⟩
  have HBV : Hid (Below w.heap.size w V) := by rw [← HV.out]; exact ((HB1.out.setCell (p := ⟨w.heap.size + 1 + 1, 1, none⟩) (by show w.heap.size ≤ w.heap.size + 1 + 1; omega) _).setCell (p := ⟨w.heap.size + 1 + 1, 2, none⟩) (by show w.heap.size ≤ w.heap.size + 1 + 1; omega) _).setCell (p := ⟨w.heap.size + 1 + 1, 3, none⟩) (by show w.heap.size ≤ w.heap.size + 1 + 1; omega) _
  have hzV : w.heap.size + 3 ≤ V.heap.size := by rw [← HV.out]; simp; omega
  have KPV : Hid (Blk V w.heap.size 52 (feedC p l d s A1 bs.length c1 A2 hs.length c2)) := by rw [← HV.out]; exact ((KP1.out.setOther (p := ⟨w.heap.size + 1 + 1, 1, none⟩) (by show w.heap.size + 1 + 1 ≠ w.heap.size; omega) _).setOther (p := ⟨w.heap.size + 1 + 1, 2, none⟩) (by show w.heap.size + 1 + 1 ≠ w.heap.size; omega) _).setOther (p := ⟨w.heap.size + 1 + 1, 3, none⟩) (by show w.heap.size + 1 + 1 ≠ w.heap.size; omega) _
  have KRV : Hid (Blk V (w.heap.size + 1) 29 (feedC 0 0 0 0 none 0 0 none 0 0)) := by rw [← HV.out]; exact ((KR1.out.setOther (p := ⟨w.heap.size + 1 + 1, 1, none⟩) (by show w.heap.size + 1 + 1 ≠ w.heap.size + 1; omega) _).setOther (p := ⟨w.heap.size + 1 + 1, 2, none⟩) (by show w.heap.size + 1 + 1 ≠ w.heap.size + 1; omega) _).setOther (p := ⟨w.heap.size + 1 + 1, 3, none⟩) (by show w.heap.size + 1 + 1 ≠ w.heap.size + 1; omega) _
  have KOV : Hid (Blk V (w.heap.size + 1 + 1) 29 (feedC p l d s none 0 0 none 0 0)) := by rw [← HV.out]; exact ((KO1.out.setOwn 1 (.int .i64 l)).setOwn 2 (.int .i64 d)).setOwn 3 (.int .i64 s)
  go_wp2_with fail
  rw [HV.out]
  refine (toStrs_any A1 c1 bs _ (HF.out.belowS HBV.out).strs hlb).mono ?_
  rintro e w2 ⟨rfl, ho2, hb2⟩
  have HB2 : Hid (Below w.heap.size w w2) := HBV.out.trans (hb2.mono HBV.out.size)
  have hz2 : V.heap.size ≤ w2.heap.size := hb2.size
  have KP2 := Lib.hid (KPV.out.below hb2 (by omega))
  have KR2 := Lib.hid (KRV.out.below hb2 (by omega))
  have KO2 := Lib.hid (KOV.out.below hb2 (by omega))
  have HO2 := Lib.hid ho2
  clear a0 a1 a2 a3 a4 a5 o0 o1 o2 o3 o4 o5 of hb2 ho2
  obtain ⟨a0, a1, a2, a3, a4, a5⟩ := feed_cells KP2.out
  obtain ⟨o0, o1, o2, o3, o4, o5⟩ := feed_cells KO2.out
  have of := blk_frozen KO2.out
  obtain ⟨X, HX⟩ : ∃ X, Hid (w2.setCell ⟨w.heap.size + 1 + 1, 4, none⟩ (.slice (some ⟨V.heap.size, 0, none⟩) bs.length bs.length) = X) := ⟨_, rfl⟩
  have HBX : Hid (Below w.heap.size w X) := by rw [← HX.out]; exact HB2.out.setCell (p := ⟨w.heap.size + 1 + 1, 4, none⟩) (by show w.heap.size ≤ w.heap.size + 1 + 1; omega) _
  have hzX : V.heap.size ≤ X.heap.size := by rw [← HX.out]; simp; omega
  have KRX : Hid (Blk X (w.heap.size + 1) 29 (feedC 0 0 0 0 none 0 0 none 0 0)) := by rw [← HX.out]; exact KR2.out.setOther (p := ⟨w.heap.size + 1 + 1, 4, none⟩) (by show w.heap.size + 1 + 1 ≠ w.heap.size + 1; omega) _
  have KOX : Hid (Blk X (w.heap.size + 1 + 1) 29 (feedC p l d s (some ⟨V.heap.size, 0, none⟩) bs.length bs.length none 0 0)) := by rw [← HX.out]; exact KO2.out.setOwn 4 _
  have HOX : Hid (OwnStrs X w.heap.size (some ⟨V.heap.size, 0, none⟩) bs.length bs) := by
    rw [← HX.out]
    refine (owns_block HO2.out ?_).base_le (by omega)
    intro g hg
    injection hg with hg
    injection hg with hg _ _
    exact Below.heap_setCell w2 ⟨w.heap.size + 1 + 1, 4, none⟩ _ g (by show g ≠ w.heap.size + 1 + 1; omega)
  go_wp2_with fail
  rw [HX.out]
  refine (toBools_any A2 c2 hs _ (HF.out.belowS HBX.out).bits hlh).mono ?_
  rintro e w3 ⟨rfl, ho3, hb3⟩
  have HB3 : Hid (Below w.heap.size w w3) := HBX.out.trans (hb3.mono HBX.out.size)
  have hz3 : X.heap.size ≤ w3.heap.size := hb3.size
  have KR3 := Lib.hid (KRX.out.below hb3 (by omega))
  have KO3 := Lib.hid (KOX.out.below hb3 (by omega))
  have HO3 := Lib.hid ho3
  have HS3 := Lib.hid (HOX.out.below hb3)
  clear a0 a1 a2 a3 a4 a5 o0 o1 o2 o3 o4 o5 of hb3 ho3
  obtain ⟨o0, o1, o2, o3, o4, o5⟩ := feed_cells KO3.out
  have of := blk_frozen KO3.out
  obtain ⟨r0, r1, r2, r3, r4, r5⟩ := feed_cells KR3.out
  have rf := blk_frozen KR3.out
  go_wp2
  obtain ⟨Y, HY⟩ : ∃ Y, Hid ((((((((w3.setCell ⟨w.heap.size + 1 + 1, 5, none⟩ (.slice (some ⟨X.heap.size, 0, none⟩) hs.length hs.length)).setCell ⟨w.heap.size + 1, 0, none⟩ (.int .i64 p)).setCell ⟨w.heap.size + 1, 1, none⟩ (.int .i64 l)).setCell ⟨w.heap.size + 1, 2, none⟩ (.int .i64 d)).setCell ⟨w.heap.size + 1, 3, none⟩ (.int .i64 s)).setCell ⟨w.heap.size + 1, 4, none⟩ (.slice (some ⟨V.heap.size, 0, none⟩) bs.length bs.length)).setCell ⟨w.heap.size + 1, 5, none⟩ (.slice (some ⟨X.heap.size, 0, none⟩) hs.length hs.length)) = Y) := ⟨_, rfl⟩
  have hbl3 : Below w.heap.size w (w3.setCell ⟨w.heap.size + 1 + 1, 5, none⟩ (.slice (some ⟨X.heap.size, 0, none⟩) hs.length hs.length)) := HB3.out.setCell (p := ⟨w.heap.size + 1 + 1, 5, none⟩) (by show w.heap.size ≤ w.heap.size + 1 + 1; omega) _
  have HBY : Hid (Below w.heap.size w Y) := by rw [← HY.out]; exact below_six hbl3 (by omega) _ _ _ _ _ _
  have KRY : Hid (Blk Y (w.heap.size + 1) 29 (feedC p l d s (some ⟨V.heap.size, 0, none⟩) bs.length bs.length (some ⟨X.heap.size, 0, none⟩) hs.length hs.length)) := by
    rw [← HY.out]
    exact blk_six (KR3.out.setOther (p := ⟨w.heap.size + 1 + 1, 5, none⟩) (by show w.heap.size + 1 + 1 ≠ w.heap.size + 1; omega) _) _ _ _ _ _ _
  have hk : ∀ g, w.heap.size + 3 ≤ g → Y.heap[g]? = w3.heap[g]? := fun g hg => by
    rw [← HY.out]
    rw [Below.heap_setCell _ ⟨w.heap.size + 1, 5, none⟩ _ g (by show g ≠ w.heap.size + 1; omega), Below.heap_setCell _ ⟨w.heap.size + 1, 4, none⟩ _ g (by show g ≠ w.heap.size + 1; omega), Below.heap_setCell _ ⟨w.heap.size + 1, 3, none⟩ _ g (by show g ≠ w.heap.size + 1; omega), Below.heap_setCell _ ⟨w.heap.size + 1, 2, none⟩ _ g (by show g ≠ w.heap.size + 1; omega), Below.heap_setCell _ ⟨w.heap.size + 1, 1, none⟩ _ g (by show g ≠ w.heap.size + 1; omega), Below.heap_setCell _ ⟨w.heap.size + 1, 0, none⟩ _ g (by show g ≠ w.heap.size + 1; omega), Below.heap_setCell _ ⟨w.heap.size + 1 + 1, 5, none⟩ _ g (by show g ≠ w.heap.size + 1 + 1; omega)]
  have hown : OwnFeed Y w.heap.size (some ⟨V.heap.size, 0, none⟩) bs.length (some ⟨X.heap.size, 0, none⟩) hs.length bs hs := by
    refine ⟨owns_block HS3.out ?_, (ownb_block HO3.out ?_).base_le (by omega), HF.out.fit⟩
    · intro g hg
      injection hg with hg
      injection hg with hg _ _
      exact hk g (by omega)
    · intro g hg
      injection hg with hg
      injection hg with hg _ _
      exact hk g (by omega)
  rw [HY.out]
  clear hk
  obtain ⟨z0, z1, z2, z3, z4, z5⟩ := feed_cells KRY.out
  exact bodyPost_ret (v := feedV p l d s (some ⟨V.heap.size, 0, none⟩) bs.length bs.length (some ⟨X.heap.size, 0, none⟩) hs.length hs.length) (by simp [results, Try.results30, go_sem, z0, z1, z2, z3, z4, z5]) rfl ⟨_, _, rfl, hown, HBY.out⟩

/-- What marking a feed of the call's own leaves. -/
def MarkedF (w : World) (base : Nat) (A1 : Option Addr) (c1 : Nat) (A2 : Option Addr) (c2 : Nat) (n1 n2 : Nat) (e : Ending) (w' : World) : Prop :=
  e = .returned (.int .i64 ((1 + n1 + n2 : Nat) : Int)) ∧ OwnFeed w' base A1 c1 A2 c2 (smarks 1 n1) (bmarks (1 + n1) n2) ∧ Below base w w' ∧ (∀ i, i < w.heap.size → (∀ g, A1 = some ⟨g, 0, none⟩ → i ≠ g) → (∀ g, A2 = some ⟨g, 0, none⟩ → i ≠ g) → w'.heap[i]? = w.heap[i]?)

theorem owns_form {w : World} {base : Nat} {A : Option Addr} {cap : Nat} {zs : List ByteArray} (h : OwnStrs w base A cap zs) : A = none ∨ ∃ g, A = some ⟨g, 0, none⟩ := by
  rcases h.2 with ⟨hv, _⟩ | ⟨g, c, cur, hv, _⟩
  · injection hv with hA _ _; exact .inl hA
  · injection hv with hA _ _; exact .inr ⟨g, hA⟩
theorem owns_lt {w : World} {base : Nat} {A : Option Addr} {cap : Nat} {zs : List ByteArray} (h : OwnStrs w base A cap zs) : ∀ g, A = some ⟨g, 0, none⟩ → base ≤ g ∧ g < w.heap.size := by
  intro g hA
  subst hA
  exact World.ownsRow.lt h g rfl
theorem markeds_other {w w' : World} {base : Nat} {A : Option Addr} {cap k0 n : Nat} {zs : List ByteArray} {e : Ending} (h : OwnStrs w base A cap zs) (hm : MarkedS w base A cap k0 n e w') : Below base w w' ∧ (∀ i, i < w.heap.size → (∀ g, A = some ⟨g, 0, none⟩ → i ≠ g) → w'.heap[i]? = w.heap[i]?) := by
  obtain ⟨_, _, hg, hn⟩ := hm
  rcases owns_form h with hA | ⟨g, hA⟩
  · have e := hn hA
    subst e
    exact ⟨Below.refl _ _, fun i _ _ => rfl⟩
  · have hgg := hg g hA
    have hlt := owns_lt h g hA
    exact ⟨(Below.refl _ _).grown hgg (by omega) (fun k hk => by injection hk with hk; omega), fun i hi hne => hgg.block i hi (fun e => hne g hA (by injection e))⟩
/-- A row of texts and a row of bools do not lie in one block. -/
theorem rows_part {w : World} {b1 b2 : Nat} {A1 A2 : Option Addr} {c1 c2 : Nat} {bs : List ByteArray} {hs : List Bool} (h1 : OwnStrs w b1 A1 c1 bs) (h2 : OwnBools w b2 A2 c2 hs) : ∀ g g', A1 = some ⟨g, 0, none⟩ → A2 = some ⟨g', 0, none⟩ → g ≠ g' := by
  intro g g' e1 e2 e
  subst e
  rcases h1.2 with ⟨hv, _⟩ | ⟨x, c, cur, hv, _, hb, _⟩
  · injection hv with hA _ _; rw [hA] at e1; cases e1
  · rcases h2.2 with ⟨hv2, _⟩ | ⟨y, c', cur', hv2, _, hb2, _⟩
    · injection hv2 with hA _ _; rw [hA] at e2; cases e2
    · injection hv with hA _ _
      injection hv2 with hA2 _ _
      rw [e1] at hA
      rw [e2] at hA2
      injection hA with hA
      injection hA with hA _ _
      injection hA2 with hA2
      injection hA2 with hA2 _ _
      subst hA hA2
      rw [hb] at hb2
      injection hb2 with hb2
      injection hb2 with _ ht _
      exact absurd ht (by decide)
theorem decT_size : ∀ (f k : Nat) (out : ByteArray), (decT f k out).size ≤ out.size + f
  | 0, _, out => Nat.le_refl _
  | f + 1, k, out => by
    by_cases hk : k = 0
    · subst hk; rw [decT_zero]; omega
    · rw [decT_succ f k out (by omega)]
      have h := decT_size f (k / 10) (ByteArray.empty.push (48 + UInt8.ofNat (k % 10)) ++ out)
      rw [ByteArray.size_append] at h
      have h1 : (ByteArray.empty.push (48 + UInt8.ofNat (k % 10))).size = 1 := rfl
      omega
theorem markT_size (k : Nat) : (markT k).size ≤ 1 + k := by
  unfold markT
  rw [ByteArray.size_append]
  have h := decT_size k k ByteArray.empty
  have h0 : ByteArray.empty.size = 0 := rfl
  have h1 : letterM.size = 1 := rfl
  omega
theorem fit_marks (k n : Nat) (h : k + n ≤ 4000000) : Fit (smarks k n) := fun j => by
  by_cases hj : j < n
  · rw [smarks_sth k n j hj]
    have := markT_size (k + j)
    unfold maxLen
    omega
  · rw [sth_none _ _ (by rw [smarks_length]; omega)]
    exact Nat.zero_le _

set_option maxHeartbeats 2000000 in
set_option maxRecDepth 100000 in
theorem markFeed_any (p l d s : Int) (base : Nat) (A1 : Option Addr) (c1 : Nat) (A2 : Option Addr) (c2 : Nat) (bs : List ByteArray) (hs : List Bool) (w : World) (hF : OwnFeed w base A1 c1 A2 c2 bs hs) (hlb : bs.length ≤ 1048576) (hlh : hs.length ≤ 1048576) (hbs : base ≤ w.heap.size) :
    Calls Try.prog 27 #[feedV p l d s A1 bs.length c1 A2 hs.length c2, .int .i64 1] w (MarkedF w base A1 c1 A2 c2 bs.length hs.length) := by
  have HF := Lib.hid hF
  have HPT := Lib.hid (rows_part hF.strs hF.bits)
  have HFT : Hid (Fit (smarks 1 bs.length)) := fit_marks 1 bs.length (by omega)
  obtain ⟨W, HW⟩ : ∃ W, Hid (w.alloc (.cells (feedC p l d s A1 bs.length c1 A2 hs.length c2) 29) = W) := ⟨_, rfl⟩
  have HO : Hid (OwnFeed W base A1 c1 A2 c2 bs hs) := by rw [← HW.out]; exact hF.alloc _
  have HB : Hid (Below w.heap.size w W) := by rw [← HW.out]; exact (Below.refl _ w).alloc (Nat.le_refl _) _
  have HK : Hid (Blk W w.heap.size 29 (feedC p l d s A1 bs.length c1 A2 hs.length c2)) := by rw [← HW.out]; exact Blk.new w _ _
  have hzW : w.heap.size < W.heap.size := HK.out.lt
  have H1lt := Lib.hid (owns_lt hF.strs)
  have H2lt := Lib.hid (ownb_lt hF.bits)
  have C1 : Hid (Calls Try.prog 73 #[.slice A1 bs.length c1, .int .i64 1] W (MarkedS W base A1 c1 1 bs.length)) := marks_any base A1 c1 1 bs W HO.out.strs hlb (by omega) (by omega)
  have C2 : Hid (∀ U, OwnBools U base A2 c2 hs → Calls Try.prog 74 #[.slice A2 hs.length c2, .int .i64 ((1 + bs.length : Nat) : Int)] U (MarkedB U base A2 c2 (1 + bs.length) hs.length)) := fun U hU => markb_any base A2 c2 (1 + bs.length) hs U hU hlh (by omega)
  obtain ⟨m, HM⟩ : ∃ m, Hid (bs.length = m) := ⟨_, rfl⟩
  obtain ⟨n, HN⟩ : ∃ n, Hid (hs.length = n) := ⟨_, rfl⟩
  rw [HM.out] at hlb C1 C2 HW HK HFT ⊢
  rw [HN.out] at hlh C2 HW HK ⊢
  clear hF
  go_enter Try.func27, Try.ntmps27
  go_wp2_with fail
  rw [HW.out]
  refine C1.out.mono ?_
  intro e w1 hm1
  obtain ⟨hb1, hk1⟩ := markeds_other HO.out.strs hm1
  obtain ⟨rfl, ho1, _, _⟩ := hm1
  have hB2 : OwnBools w1 base A2 c2 hs := ownb_block HO.out.bits fun g hA => hk1 g (Nat.lt_trans (H2lt.out g hA).2 hzW) fun g' hA' e => HPT.out g' g hA' hA e.symm
  have hK1 : Blk w1 w.heap.size 29 (feedC p l d s A1 m c1 A2 n c2) := (hk1 w.heap.size hzW fun g hA e => by have := (H1lt.out g hA).2; omega).trans HK.out
  obtain ⟨a0, a1, a2, a3, a4, a5⟩ := feed_cells hK1
  have HO1 := Lib.hid ho1
  have HB2 := Lib.hid hB2
  have HK1 := Lib.hid hk1
  have HBW1 := Lib.hid hb1
  clear hb1 hk1 ho1 hB2 hK1
  go_wp2_with fail
  refine (C2.out _ HB2.out).mono ?_
  intro e w2 hm2
  obtain ⟨hb2, hk2⟩ := markedb_other HB2.out hm2
  obtain ⟨rfl, ho2, _, _⟩ := hm2
  have hz1 : W.heap.size ≤ w1.heap.size := HBW1.out.size
  have hfin : MarkedF w base A1 c1 A2 c2 m n (.returned (.int .i64 ((1 + m + n : Nat) : Int))) w2 := by
    refine ⟨rfl, ⟨owns_block HO1.out fun g hA => hk2 g (by have := (owns_lt HO1.out g hA).2; omega) fun g' hA' e => HPT.out g g' hA hA' e, ho2, HFT.out⟩, ?_, ?_⟩
    · exact (HB.out.mono hbs).trans ((HBW1.out).trans hb2)
    · intro i hi h1 h2
      rw [hk2 i (by omega) h2, HK1.out i (by omega) h1]
      exact HB.out.block i hi
  have HFIN := Lib.hid hfin
  clear hfin hb2 hk2 ho2
  go_wp2
  go_ret
  exact HFIN.out

set_option maxHeartbeats 2000000 in
set_option maxRecDepth 100000 in
theorem heldFeed_any (p l d s : Int) (A1 : Option Addr) (c1 : Nat) (A2 : Option Addr) (c2 : Nat) (m n : Nat) (w : World) (hF : FeedAt w w.heap.size A1 A2 (smarks 1 m) (bmarks (1 + m) n)) (hlb : m ≤ 1048576) (hlh : n ≤ 1048576) :
    Calls Try.prog 28 #[feedV p l d s A1 m c1 A2 n c2, .int .i64 1] w fun e w' => e = .returned (.int .i64 ((1 + m + n : Nat) : Int)) ∧ Below w.heap.size w w' := by
  have HF := Lib.hid hF
  obtain ⟨W, HW⟩ : ∃ W, Hid (w.alloc (.cells (feedC p l d s A1 m c1 A2 n c2) 29) = W) := ⟨_, rfl⟩
  have HB : Hid (Below w.heap.size w W) := by rw [← HW.out]; exact (Below.refl _ w).alloc (Nat.le_refl _) _
  have HK : Hid (Blk W w.heap.size 29 (feedC p l d s A1 m c1 A2 n c2)) := by rw [← HW.out]; exact Blk.new w _ _
  have C2 : Hid (∀ U, Below w.heap.size w U → Calls Try.prog 76 #[.slice A2 n c2, .int .i64 ((1 + m : Nat) : Int)] U fun e w' => e = .returned (.int .i64 ((1 + m + n : Nat) : Int)) ∧ ∃ q, w' = U.drewN q) := fun U hU => heldbk_any A2 c2 (1 + m) n U (HF.out.belowS hU).bits hlh (by omega)
  clear hF
  go_enter Try.func28, Try.ntmps28
  go_wp2_with fail
  rw [HW.out]
  refine (helds_any A1 c1 1 m _ (HF.out.belowS HB.out).strs hlb (by omega) (by omega)).mono ?_
  rintro e w1 ⟨rfl, hb1⟩
  have HB1 : Hid (Below w.heap.size w w1) := HB.out.trans (hb1.mono HB.out.size)
  obtain ⟨a0, a1, a2, a3, a4, a5⟩ := feed_cells (HK.out.below hb1 HK.out.lt)
  clear hb1
  go_wp2_with fail
  refine (C2.out _ HB1.out).mono ?_
  rintro e w2 ⟨rfl, q, rfl⟩
  go_wp2
  go_ret
  exact ⟨ret_int (by simp), below_drewN HB1.out _⟩

end Go.Proofs.Ytgpmodidpdjhkaa
