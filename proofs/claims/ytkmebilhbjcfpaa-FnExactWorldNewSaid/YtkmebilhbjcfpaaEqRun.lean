/- Contracts of the laws' eqWorld and of what it calls, at values that read alike: true. Condition: both lie in memory. -/
import Derived.Test.YtkmebilhbjcfpaaSameRun
import Derived.Test.YtkmebilhbjcfpaaBaseL
import Derived.Test.YtkmebilhbjcfpaaBaseA
import Derived.Test.YtkmebilhbjcfpaaExactAsks
import Derived.Deep.RegionHeld3
namespace Go.Proofs.Ytkmebilhbjcfpaa
open Go.RowKit
set_option linter.unusedVariables false

set_option maxHeartbeats 2000000 in
set_option maxRecDepth 100000 in
theorem eqLink_yes (x y : Int) (w : World) :
    Calls Try.prog 62 #[.agg #[.int .i64 x, .int .i64 y], .agg #[.int .i64 x, .int .i64 y]] w fun e w' => e = .returned (.bool true) ∧ Below w.heap.size w w' := by
  go_enter Try.func62, Try.ntmps62
  go_wp2
  go_ret
  exact ⟨rfl, ((Below.refl _ w).alloc (Nat.le_refl _) _).alloc (by simp) _⟩

set_option maxHeartbeats 4000000 in
set_option maxRecDepth 100000 in
theorem eqPiece_yes (f t l i : Int) (tx : ByteArray) (A : Option Addr) (c : Nat) (A1 : Option Addr) (c1 : Nat) (n : Nat) (w : World)
    (HC : ∀ U, Below w.heap.size w U → Calls Try.prog 94 #[.slice A n c, .slice A1 n c1] U fun e w' => e = .returned (.bool true) ∧ ∃ q, w' = U.drewN q) :
    Calls Try.prog 64 #[.agg #[.int .i64 f, .int .i64 t, .int .i64 l, .int .i64 i, .string tx, .slice A n c], .agg #[.int .i64 f, .int .i64 t, .int .i64 l, .int .i64 i, .string tx, .slice A1 n c1]] w fun e w' => e = .returned (.bool true) ∧ Below w.heap.size w w' := by
  have H := Lib.hid HC
  clear HC
  obtain ⟨V0, HV0⟩ : ∃ W, Hid ((w.alloc (.cells #[.int .i64 f, .int .i64 t, .int .i64 l, .int .i64 i, .string tx, .slice A n c] 58)).alloc (.cells #[.int .i64 f, .int .i64 t, .int .i64 l, .int .i64 i, .string tx, .slice A1 n c1] 58) = W) := ⟨_, rfl⟩
  have KA : Hid (Blk V0 w.heap.size 58 #[.int .i64 f, .int .i64 t, .int .i64 l, .int .i64 i, .string tx, .slice A n c]) := by rw [← HV0.out]; exact (Blk.new w _ _).alloc _
  have KB : Hid (Blk V0 (w.heap.size + 1) 58 #[.int .i64 f, .int .i64 t, .int .i64 l, .int .i64 i, .string tx, .slice A1 n c1]) := by
    rw [← HV0.out]
    have := Blk.new (w.alloc (.cells #[.int .i64 f, .int .i64 t, .int .i64 l, .int .i64 i, .string tx, .slice A n c] 58)) 58 #[.int .i64 f, .int .i64 t, .int .i64 l, .int .i64 i, .string tx, .slice A1 n c1]
    rwa [World.size_alloc] at this
  have HB : Hid (Below w.heap.size w V0) := by rw [← HV0.out]; exact ((Below.refl _ w).alloc (Nat.le_refl _) _).alloc (by rw [World.size_alloc]; omega) _
  obtain ⟨a0, a1, a2, a3, a4, a5⟩ := run_cells KA.out
  obtain ⟨b0, b1, b2, b3, b4, b5⟩ := run_cells KB.out
  have CS := Lib.hid (H.out V0 HB.out)
  go_enter Try.func64, Try.ntmps64
  go_upto_region 1 with fail
  rw [HV0.out]
  go_wp2_with fail
  refine CS.out.mono ?_
  rintro e w2 ⟨rfl, qn, rfl⟩
  go_wp2
  go_ret
  exact ⟨rfl, below_drewN HB.out qn⟩

set_option maxHeartbeats 6000000 in
set_option maxRecDepth 100000 in
theorem eqFeeds_yes (A : Option Addr) (c : Nat) (hs : List FH) (A' : Option Addr) (c' : Nat) (hs' : List FH) (w : World) (h : RowAt FK w w.heap.size A hs) (h' : RowAt FK w w.heap.size A' hs') (hf : ∀ k, k < hs.length → FhAt w w.heap.size (fhth hs k)) (hf' : ∀ k, k < hs'.length → FhAt w w.heap.size (fhth hs' k)) (he : ∀ k, (fhth hs' k).f = (fhth hs k).f) (hm : hs.length ≤ maxLen) {n : Nat} (hn : hs.length = n) (hn' : hs'.length = n) :
    Calls Try.prog 32 #[.slice A n c, .slice A' n c'] w fun e w' => e = .returned (.bool true) ∧ Below w.heap.size w w' := by
  unfold maxLen at hm
  rw [hn] at hm
  have HA := Lib.hid h
  have HA' := Lib.hid h'
  have HF := Lib.hid hf
  have HF' := Lib.hid hf'
  have HE := Lib.hid he
  clear hf hf' he
  have HN := Lib.hid hn
  have HN' := Lib.hid hn'
  clear h h' hn hn'
  have hne : ((n : Int) != (n : Int)) = false := by simp
  go_enter Try.func32, Try.ntmps32
  go_wp2
  go_loopw [5] (fun i wr => ∃ k : Nat, k ≤ n ∧ i = .int .i64 (k : Int) ∧ Hid (Below w.heap.size w wr)) (fun i _ => n - (intOf i).toNat)
  case atStart => exact ⟨0, Nat.zero_le _, rfl, Below.refl _ _⟩
  case round =>
    obtain ⟨k, hk, rfl, HBr⟩ := hrel
    have hk0 : (0 : Int) ≤ (k : Int) := by omega
    by_cases hkn : k < n
    · have hki : (k : Int) < (n : Int) := by omega
      have HRa := Lib.hid (HA.out.belowS HBr.out)
      have HRb := Lib.hid (HA'.out.belowS HBr.out)
      obtain ⟨ca, oa, rfl⟩ := HRa.out.some_ (by rw [HN.out]; omega)
      obtain ⟨cb, ob, rfl⟩ := HRb.out.some_ (by rw [HN'.out]; omega)
      have hla := (HRa.out.lt (by rw [HN.out]; omega)).1
      have hlb := (HRb.out.lt (by rw [HN'.out]; omega)).1
      obtain ⟨c0, c1, c2, c3, c4, c5⟩ := feed_cells6 HRa.out k (by rw [HN.out]; exact hkn)
      obtain ⟨d0, d1, d2, d3, d4, d5⟩ := feed_cells6 HRb.out k (by rw [HN'.out]; exact hkn)
      have HFa := Lib.hid (HF.out k (by rw [HN.out]; exact hkn))
      have HFb := Lib.hid (HF'.out k (by rw [HN'.out]; exact hkn))
      have HEk := Lib.hid (HE.out k)
      obtain ⟨X, HX⟩ : ∃ x, Hid (fhth hs k = x) := ⟨_, rfl⟩
      obtain ⟨Y, HY⟩ : ∃ x, Hid (fhth hs' k = x) := ⟨_, rfl⟩
      rw [HX.out] at c0 c1 c2 c3 c4 c5 HFa HEk
      rw [HY.out] at d0 d1 d2 d3 d4 d5 HFb HEk
      obtain ⟨⟨xp, xl, xd, xs, xbs, xhs⟩, xa1, xc1, xa2, xc2⟩ := X
      obtain ⟨yf, ya1, yc1, ya2, yc2⟩ := Y
      have heq := HEk.out
      dsimp only at heq
      subst heq
      dsimp only at c0 c1 c2 c3 c4 c5 d0 d1 d2 d3 d4 d5
      have CS : Hid (∀ U, Below wr.heap.size wr U → Calls Try.prog 61 #[feedV xp xl xd xs xa1 xbs.length xc1 xa2 xhs.length xc2, feedV xp xl xd xs ya1 xbs.length yc1 ya2 xhs.length yc2] U fun e w' => e = .returned (.bool true) ∧ Below U.heap.size U w') := fun U hU =>
        eqFeed_same xp xl xd xs xa1 xc1 xa2 xc2 ya1 yc1 ya2 yc2 xbs xhs U (HFa.out.feed.belowS (HBr.out.trans (hU.mono HBr.out.size))) (HFb.out.feed.belowS (HBr.out.trans (hU.mono HBr.out.size)))
      obtain ⟨y1, HY1⟩ : ∃ x, Hid (xbs.length = x) := ⟨_, rfl⟩
      obtain ⟨y2, HY2⟩ : ∃ x, Hid (xhs.length = x) := ⟨_, rfl⟩
      rw [HY1.out] at c4 d4 CS
      rw [HY2.out] at c5 d5 CS
      go_wp2_with fail
      go_region_held3 (fun w' => w'.cell? ⟨ca, oa + k * 6, none⟩ = some (.int .i64 xp) ∧ w'.cell? ⟨ca, oa + k * 6 + 1, none⟩ = some (.int .i64 xl) ∧ w'.cell? ⟨ca, oa + k * 6 + 2, none⟩ = some (.int .i64 xd) ∧ w'.cell? ⟨ca, oa + k * 6 + 3, none⟩ = some (.int .i64 xs) ∧ w'.cell? ⟨ca, oa + k * 6 + 4, none⟩ = some (.slice xa1 y1 xc1) ∧ w'.cell? ⟨ca, oa + k * 6 + 5, none⟩ = some (.slice xa2 y2 xc2) ∧ w'.cell? ⟨cb, ob + k * 6, none⟩ = some (.int .i64 xp) ∧ w'.cell? ⟨cb, ob + k * 6 + 1, none⟩ = some (.int .i64 xl) ∧ w'.cell? ⟨cb, ob + k * 6 + 2, none⟩ = some (.int .i64 xd) ∧ w'.cell? ⟨cb, ob + k * 6 + 3, none⟩ = some (.int .i64 xs) ∧ w'.cell? ⟨cb, ob + k * 6 + 4, none⟩ = some (.slice ya1 y1 yc1) ∧ w'.cell? ⟨cb, ob + k * 6 + 5, none⟩ = some (.slice ya2 y2 yc2)) (go_keep)
        (first
          | (go_at_call 61; (with_reducible refine (CS.out _ ?_).mono ?_); exact below_drew (Below.refl _ _); rintro e w2 ⟨rfl, hb2⟩; have HB2 : Hid (Below wr.heap.size wr w2) := below_drew_l hb2; have HB2w : Hid (Below w.heap.size w w2) := HBr.out.trans (HB2.out.mono HBr.out.size); have z0 := (HB2.out.cell (p := ⟨ca, oa + k * 6, none⟩) hla).trans c0; have z1 := (HB2.out.cell (p := ⟨ca, oa + k * 6 + 1, none⟩) hla).trans c1; have z2 := (HB2.out.cell (p := ⟨ca, oa + k * 6 + 2, none⟩) hla).trans c2; have z3 := (HB2.out.cell (p := ⟨ca, oa + k * 6 + 3, none⟩) hla).trans c3; have z4 := (HB2.out.cell (p := ⟨ca, oa + k * 6 + 4, none⟩) hla).trans c4; have z5 := (HB2.out.cell (p := ⟨ca, oa + k * 6 + 5, none⟩) hla).trans c5; have z6 := (HB2.out.cell (p := ⟨cb, ob + k * 6, none⟩) hlb).trans d0; have z7 := (HB2.out.cell (p := ⟨cb, ob + k * 6 + 1, none⟩) hlb).trans d1; have z8 := (HB2.out.cell (p := ⟨cb, ob + k * 6 + 2, none⟩) hlb).trans d2; have z9 := (HB2.out.cell (p := ⟨cb, ob + k * 6 + 3, none⟩) hlb).trans d3; have z10 := (HB2.out.cell (p := ⟨cb, ob + k * 6 + 4, none⟩) hlb).trans d4; have z11 := (HB2.out.cell (p := ⟨cb, ob + k * 6 + 5, none⟩) hlb).trans d5; clear hb2))
      go_wp2
      go_roundw
      case rel => exact ⟨k + 1, by omega, by go_num, HB2w.out⟩
      case measure => simp [intOf]; omega
    · have hke : k = n := by omega
      subst hke
      go_wp2
      go_ret
      exact ⟨rfl, HBr.out⟩

set_option maxHeartbeats 6000000 in
set_option maxRecDepth 100000 in
theorem eqLinks_yes (A : Option Addr) (c : Nat) (hs : List LinkD) (A' : Option Addr) (c' : Nat) (hs' : List LinkD) (w : World) (h : RowAt NK w w.heap.size A hs) (h' : RowAt NK w w.heap.size A' hs') (he : hs' = hs) (hm : hs.length ≤ maxLen) {n : Nat} (hn : hs.length = n) (hn' : hs'.length = n) :
    Calls Try.prog 33 #[.slice A n c, .slice A' n c'] w fun e w' => e = .returned (.bool true) ∧ Below w.heap.size w w' := by
  unfold maxLen at hm
  rw [hn] at hm
  have HA := Lib.hid h
  have HA' := Lib.hid h'
  subst he
  have HN := Lib.hid hn
  have HN' := Lib.hid hn'
  clear h h' hn hn'
  have hne : ((n : Int) != (n : Int)) = false := by simp
  go_enter Try.func33, Try.ntmps33
  go_wp2
  go_loopw [5] (fun i wr => ∃ k : Nat, k ≤ n ∧ i = .int .i64 (k : Int) ∧ Hid (Below w.heap.size w wr)) (fun i _ => n - (intOf i).toNat)
  case atStart => exact ⟨0, Nat.zero_le _, rfl, Below.refl _ _⟩
  case round =>
    obtain ⟨k, hk, rfl, HBr⟩ := hrel
    have hk0 : (0 : Int) ≤ (k : Int) := by omega
    by_cases hkn : k < n
    · have hki : (k : Int) < (n : Int) := by omega
      have HRa := Lib.hid (HA.out.belowS HBr.out)
      have HRb := Lib.hid (HA'.out.belowS HBr.out)
      obtain ⟨ca, oa, rfl⟩ := HRa.out.some_ (by rw [HN.out]; omega)
      obtain ⟨cb, ob, rfl⟩ := HRb.out.some_ (by rw [HN'.out]; omega)
      have hla := (HRa.out.lt (by rw [HN.out]; omega)).1
      have hlb := (HRb.out.lt (by rw [HN'.out]; omega)).1
      obtain ⟨c0, c1⟩ := link_cells2 HRa.out k (by rw [HN.out]; exact hkn)
      obtain ⟨d0, d1⟩ := link_cells2 HRb.out k (by rw [HN.out]; exact hkn)
      obtain ⟨x1, HX1⟩ : ∃ x, (kth2 hs' k).a = x := ⟨_, rfl⟩
      obtain ⟨x2, HX2⟩ : ∃ x, (kth2 hs' k).b = x := ⟨_, rfl⟩
      rw [HX1] at c0 d0
      rw [HX2] at c1 d1
      clear HX1 HX2
      have CS := Lib.hid (fun U => eqLink_yes x1 x2 U)
      go_wp2_with fail
      go_region_held3 (fun w' => w'.cell? ⟨ca, oa + k * 2, none⟩ = some (.int .i64 x1) ∧ w'.cell? ⟨ca, oa + k * 2 + 1, none⟩ = some (.int .i64 x2) ∧ w'.cell? ⟨cb, ob + k * 2, none⟩ = some (.int .i64 x1) ∧ w'.cell? ⟨cb, ob + k * 2 + 1, none⟩ = some (.int .i64 x2)) (go_keep)
        (first
          | (go_at_call 62; (with_reducible refine (CS.out _).mono ?_); rintro e w2 ⟨rfl, hb2⟩; have HB2 : Hid (Below wr.heap.size wr w2) := below_drew_l hb2; have HB2w : Hid (Below w.heap.size w w2) := HBr.out.trans (HB2.out.mono HBr.out.size); have z0 := (HB2.out.cell (p := ⟨ca, oa + k * 2, none⟩) hla).trans c0; have z1 := (HB2.out.cell (p := ⟨ca, oa + k * 2 + 1, none⟩) hla).trans c1; have z2 := (HB2.out.cell (p := ⟨cb, ob + k * 2, none⟩) hlb).trans d0; have z3 := (HB2.out.cell (p := ⟨cb, ob + k * 2 + 1, none⟩) hlb).trans d1; clear hb2))
      go_wp2
      go_roundw
      case rel => exact ⟨k + 1, by omega, by go_num, HB2w.out⟩
      case measure => simp [intOf]; omega
    · have hke : k = n := by omega
      subst hke
      go_wp2
      go_ret
      exact ⟨rfl, HBr.out⟩

set_option maxHeartbeats 6000000 in
set_option maxRecDepth 100000 in
theorem eqAskss_yes (A : Option Addr) (c : Nat) (hs : List AH) (A' : Option Addr) (c' : Nat) (hs' : List AH) (w : World) (h : RowAt HK2 w w.heap.size A hs) (h' : RowAt HK2 w w.heap.size A' hs') (hf : ∀ k, k < hs.length → AsksAt w w.heap.size (ahth hs k).a (ahth hs k).c (ahth hs k).xs) (hf' : ∀ k, k < hs'.length → AsksAt w w.heap.size (ahth hs' k).a (ahth hs' k).c (ahth hs' k).xs) (he : ∀ k, (ahth hs' k).xs = (ahth hs k).xs) (hm : hs.length ≤ maxLen) {n : Nat} (hn : hs.length = n) (hn' : hs'.length = n) :
    Calls Try.prog 34 #[.slice A n c, .slice A' n c'] w fun e w' => e = .returned (.bool true) ∧ Below w.heap.size w w' := by
  unfold maxLen at hm
  rw [hn] at hm
  have HA := Lib.hid h
  have HA' := Lib.hid h'
  have HF := Lib.hid hf
  have HF' := Lib.hid hf'
  have HE := Lib.hid he
  clear hf hf' he
  have HN := Lib.hid hn
  have HN' := Lib.hid hn'
  clear h h' hn hn'
  have hne : ((n : Int) != (n : Int)) = false := by simp
  go_enter Try.func34, Try.ntmps34
  go_wp2
  go_loopw [5] (fun i wr => ∃ k : Nat, k ≤ n ∧ i = .int .i64 (k : Int) ∧ Hid (Below w.heap.size w wr)) (fun i _ => n - (intOf i).toNat)
  case atStart => exact ⟨0, Nat.zero_le _, rfl, Below.refl _ _⟩
  case round =>
    obtain ⟨k, hk, rfl, HBr⟩ := hrel
    have hk0 : (0 : Int) ≤ (k : Int) := by omega
    by_cases hkn : k < n
    · have hki : (k : Int) < (n : Int) := by omega
      have HRa := Lib.hid (HA.out.belowS HBr.out)
      have HRb := Lib.hid (HA'.out.belowS HBr.out)
      obtain ⟨ca, oa, rfl⟩ := HRa.out.some_ (by rw [HN.out]; omega)
      obtain ⟨cb, ob, rfl⟩ := HRb.out.some_ (by rw [HN'.out]; omega)
      have hla := (HRa.out.lt (by rw [HN.out]; omega)).1
      have hlb := (HRb.out.lt (by rw [HN'.out]; omega)).1
      have c0 := asks_cell1 HRa.out k (by rw [HN.out]; exact hkn)
      have d0 := asks_cell1 HRb.out k (by rw [HN'.out]; exact hkn)
      have HFa := Lib.hid (HF.out k (by rw [HN.out]; exact hkn))
      have HFb := Lib.hid (HF'.out k (by rw [HN'.out]; exact hkn))
      have HEk := Lib.hid (HE.out k)
      obtain ⟨X, HX⟩ : ∃ x, Hid (ahth hs k = x) := ⟨_, rfl⟩
      obtain ⟨Y, HY⟩ : ∃ x, Hid (ahth hs' k = x) := ⟨_, rfl⟩
      rw [HX.out] at c0 HFa HEk
      rw [HY.out] at d0 HFb HEk
      obtain ⟨xa1, xc1, xxs⟩ := X
      obtain ⟨ya1, yc1, yxs⟩ := Y
      have heq := HEk.out
      dsimp only at heq
      subst heq
      dsimp only at c0 d0
      obtain ⟨y1, HY1⟩ : ∃ x, Hid (yxs.length = x) := ⟨_, rfl⟩
      have CS : Hid (∀ U, Below wr.heap.size wr U → Calls Try.prog 63 #[.slice xa1 y1 xc1, .slice ya1 y1 yc1] U fun e w' => e = .returned (.bool true) ∧ Below U.heap.size U w') := fun U hU =>
        eqAs_any xa1 xc1 ya1 yc1 yxs U (HFa.out.belowS (HBr.out.trans (hU.mono HBr.out.size))).row (HFb.out.belowS (HBr.out.trans (hU.mono HBr.out.size))).row (Nat.le_trans HFa.out.le HFa.out.most) HY1.out
      rw [HY1.out] at c0 d0
      go_wp2_with fail
      go_region_held3 (fun w' => w'.cell? ⟨ca, oa + k, none⟩ = some (.slice xa1 y1 xc1) ∧ w'.cell? ⟨cb, ob + k, none⟩ = some (.slice ya1 y1 yc1)) (go_keep)
        (first
          | (go_at_call 63; (with_reducible refine (CS.out _ ?_).mono ?_); exact below_drew (Below.refl _ _); rintro e w2 ⟨rfl, hb2⟩; have HB2 : Hid (Below wr.heap.size wr w2) := below_drew_l hb2; have HB2w : Hid (Below w.heap.size w w2) := HBr.out.trans (HB2.out.mono HBr.out.size); have z0 := (HB2.out.cell (p := ⟨ca, oa + k, none⟩) hla).trans c0; have z1 := (HB2.out.cell (p := ⟨cb, ob + k, none⟩) hlb).trans d0; clear hb2))
      go_wp2
      go_roundw
      case rel => exact ⟨k + 1, by omega, by go_num, HB2w.out⟩
      case measure => simp [intOf]; omega
    · have hke : k = n := by omega
      subst hke
      go_wp2
      go_ret
      exact ⟨rfl, HBr.out⟩

set_option maxHeartbeats 6000000 in
set_option maxRecDepth 100000 in
theorem eqPieces_yes (A : Option Addr) (c : Nat) (hs : List QH) (A' : Option Addr) (c' : Nat) (hs' : List QH) (w : World) (h : RowAt QK w w.heap.size A hs) (h' : RowAt QK w w.heap.size A' hs') (hf : ∀ k, k < hs.length → QhAt w w.heap.size (qhth hs k)) (hf' : ∀ k, k < hs'.length → QhAt w w.heap.size (qhth hs' k)) (he : ∀ k, (qhth hs' k).p = (qhth hs k).p) (hm : hs.length ≤ maxLen) {n : Nat} (hn : hs.length = n) (hn' : hs'.length = n) :
    Calls Try.prog 35 #[.slice A n c, .slice A' n c'] w fun e w' => e = .returned (.bool true) ∧ Below w.heap.size w w' := by
  unfold maxLen at hm
  rw [hn] at hm
  have HA := Lib.hid h
  have HA' := Lib.hid h'
  have HF := Lib.hid hf
  have HF' := Lib.hid hf'
  have HE := Lib.hid he
  clear hf hf' he
  have HN := Lib.hid hn
  have HN' := Lib.hid hn'
  clear h h' hn hn'
  have hne : ((n : Int) != (n : Int)) = false := by simp
  go_enter Try.func35, Try.ntmps35
  go_wp2
  go_loopw [5] (fun i wr => ∃ k : Nat, k ≤ n ∧ i = .int .i64 (k : Int) ∧ Hid (Below w.heap.size w wr)) (fun i _ => n - (intOf i).toNat)
  case atStart => exact ⟨0, Nat.zero_le _, rfl, Below.refl _ _⟩
  case round =>
    obtain ⟨k, hk, rfl, HBr⟩ := hrel
    have hk0 : (0 : Int) ≤ (k : Int) := by omega
    by_cases hkn : k < n
    · have hki : (k : Int) < (n : Int) := by omega
      have HRa := Lib.hid (HA.out.belowS HBr.out)
      have HRb := Lib.hid (HA'.out.belowS HBr.out)
      obtain ⟨ca, oa, rfl⟩ := HRa.out.some_ (by rw [HN.out]; omega)
      obtain ⟨cb, ob, rfl⟩ := HRb.out.some_ (by rw [HN'.out]; omega)
      have hla := (HRa.out.lt (by rw [HN.out]; omega)).1
      have hlb := (HRb.out.lt (by rw [HN'.out]; omega)).1
      obtain ⟨c0, c1, c2, c3, c4, c5⟩ := piece_cells6 HRa.out k (by rw [HN.out]; exact hkn)
      obtain ⟨d0, d1, d2, d3, d4, d5⟩ := piece_cells6 HRb.out k (by rw [HN'.out]; exact hkn)
      have HFa := Lib.hid (HF.out k (by rw [HN.out]; exact hkn))
      have HFb := Lib.hid (HF'.out k (by rw [HN'.out]; exact hkn))
      have HEk := Lib.hid (HE.out k)
      obtain ⟨X, HX⟩ : ∃ x, Hid (qhth hs k = x) := ⟨_, rfl⟩
      obtain ⟨Y, HY⟩ : ∃ x, Hid (qhth hs' k = x) := ⟨_, rfl⟩
      rw [HX.out] at c0 c1 c2 c3 c4 c5 HFa HEk
      rw [HY.out] at d0 d1 d2 d3 d4 d5 HFb HEk
      obtain ⟨⟨xf, xt, xl, xi, xtx, xpf⟩, xa1, xc1⟩ := X
      obtain ⟨yf, ya1, yc1⟩ := Y
      have heq := HEk.out
      dsimp only at heq
      subst heq
      dsimp only at c0 c1 c2 c3 c4 c5 d0 d1 d2 d3 d4 d5
      obtain ⟨y1, HY1⟩ : ∃ x, Hid (xpf.length = x) := ⟨_, rfl⟩
      have CS : Hid (∀ U, Below wr.heap.size wr U → Calls Try.prog 64 #[.agg #[.int .i64 xf, .int .i64 xt, .int .i64 xl, .int .i64 xi, .string xtx, .slice xa1 y1 xc1], .agg #[.int .i64 xf, .int .i64 xt, .int .i64 xl, .int .i64 xi, .string xtx, .slice ya1 y1 yc1]] U fun e w' => e = .returned (.bool true) ∧ Below U.heap.size U w') := fun U hU =>
        eqPiece_yes xf xt xl xi xtx xa1 xc1 ya1 yc1 y1 U (fun U2 hU2 => by
          have hB := HBr.out.trans ((hU.trans (hU2.mono hU.size)).mono HBr.out.size)
          have hm := Nat.le_trans HFa.out.le HFa.out.most
          have := eqi_any xa1 xc1 xpf ya1 yc1 xpf U2 (HFa.out.ints.belowS hB) (HFb.out.ints.belowS hB) hm hm
          rw [HY1.out, decide_eq_true rfl] at this
          exact this)
      rw [HY1.out] at c5 d5
      go_wp2_with fail
      go_region_held3 (fun w' => w'.cell? ⟨ca, oa + k * 6, none⟩ = some (.int .i64 xf) ∧ w'.cell? ⟨ca, oa + k * 6 + 1, none⟩ = some (.int .i64 xt) ∧ w'.cell? ⟨ca, oa + k * 6 + 2, none⟩ = some (.int .i64 xl) ∧ w'.cell? ⟨ca, oa + k * 6 + 3, none⟩ = some (.int .i64 xi) ∧ w'.cell? ⟨ca, oa + k * 6 + 4, none⟩ = some (.string xtx) ∧ w'.cell? ⟨ca, oa + k * 6 + 5, none⟩ = some (.slice xa1 y1 xc1) ∧ w'.cell? ⟨cb, ob + k * 6, none⟩ = some (.int .i64 xf) ∧ w'.cell? ⟨cb, ob + k * 6 + 1, none⟩ = some (.int .i64 xt) ∧ w'.cell? ⟨cb, ob + k * 6 + 2, none⟩ = some (.int .i64 xl) ∧ w'.cell? ⟨cb, ob + k * 6 + 3, none⟩ = some (.int .i64 xi) ∧ w'.cell? ⟨cb, ob + k * 6 + 4, none⟩ = some (.string xtx) ∧ w'.cell? ⟨cb, ob + k * 6 + 5, none⟩ = some (.slice ya1 y1 yc1)) (go_keep)
        (first
          | (go_at_call 64; (with_reducible refine (CS.out _ ?_).mono ?_); exact below_drew (Below.refl _ _); rintro e w2 ⟨rfl, hb2⟩; have HB2 : Hid (Below wr.heap.size wr w2) := below_drew_l hb2; have HB2w : Hid (Below w.heap.size w w2) := HBr.out.trans (HB2.out.mono HBr.out.size); have z0 := (HB2.out.cell (p := ⟨ca, oa + k * 6, none⟩) hla).trans c0; have z1 := (HB2.out.cell (p := ⟨ca, oa + k * 6 + 1, none⟩) hla).trans c1; have z2 := (HB2.out.cell (p := ⟨ca, oa + k * 6 + 2, none⟩) hla).trans c2; have z3 := (HB2.out.cell (p := ⟨ca, oa + k * 6 + 3, none⟩) hla).trans c3; have z4 := (HB2.out.cell (p := ⟨ca, oa + k * 6 + 4, none⟩) hla).trans c4; have z5 := (HB2.out.cell (p := ⟨ca, oa + k * 6 + 5, none⟩) hla).trans c5; have z6 := (HB2.out.cell (p := ⟨cb, ob + k * 6, none⟩) hlb).trans d0; have z7 := (HB2.out.cell (p := ⟨cb, ob + k * 6 + 1, none⟩) hlb).trans d1; have z8 := (HB2.out.cell (p := ⟨cb, ob + k * 6 + 2, none⟩) hlb).trans d2; have z9 := (HB2.out.cell (p := ⟨cb, ob + k * 6 + 3, none⟩) hlb).trans d3; have z10 := (HB2.out.cell (p := ⟨cb, ob + k * 6 + 4, none⟩) hlb).trans d4; have z11 := (HB2.out.cell (p := ⟨cb, ob + k * 6 + 5, none⟩) hlb).trans d5; clear hb2))
      go_wp2
      go_roundw
      case rel => exact ⟨k + 1, by omega, by go_num, HB2w.out⟩
      case measure => simp [intOf]; omega
    · have hke : k = n := by omega
      subst hke
      go_wp2
      go_ret
      exact ⟨rfl, HBr.out⟩

set_option maxHeartbeats 6000000 in
set_option maxRecDepth 100000 in
theorem eqRun_yes (sec bad : Int) (r r' : WR) (ls : List LinkD) (w : World) (h : RunAt w w.heap.size r ls) (h' : RunAt w w.heap.size r' ls) (hs : Alike r r') {n1 n2 n3 n4 : Nat} (hn1 : r.fh.length = n1) (hn2 : ls.length = n2) (hn3 : r.ah.length = n3) (hn4 : r.qh.length = n4) :
    Calls Try.prog 11 #[.agg #[.int .i64 sec, .int .i64 bad, .slice r.A1 n1 r.c1, .slice r.A2 n2 r.c2, .slice r.A3 n3 r.c3, .slice r.A4 n4 r.c4], .agg #[.int .i64 sec, .int .i64 bad, .slice r'.A1 n1 r'.c1, .slice r'.A2 n2 r'.c2, .slice r'.A3 n3 r'.c3, .slice r'.A4 n4 r'.c4]] w fun e w' => e = .returned (.bool true) ∧ Below w.heap.size w w' := by
  have C1 : Hid (∀ U, Below w.heap.size w U → Calls Try.prog 32 #[.slice r.A1 n1 r.c1, .slice r'.A1 n1 r'.c1] U fun e w' => e = .returned (.bool true) ∧ Below U.heap.size U w') := fun U hU => by
    have a := h.belowS hU
    have b := h'.belowS hU
    exact eqFeeds_yes r.A1 r.c1 r.fh r'.A1 r'.c1 r'.fh U a.r1 b.r1 (fun k hk => a.feed k hk) (fun k hk => b.feed k hk) hs.fk a.m1 hn1 (hs.fl.trans hn1)
  have C2 : Hid (∀ U, Below w.heap.size w U → Calls Try.prog 33 #[.slice r.A2 n2 r.c2, .slice r'.A2 n2 r'.c2] U fun e w' => e = .returned (.bool true) ∧ Below U.heap.size U w') := fun U hU => by
    have a := h.belowS hU
    have b := h'.belowS hU
    exact eqLinks_yes r.A2 r.c2 ls r'.A2 r'.c2 ls U a.r2 b.r2 rfl a.m2 hn2 hn2
  have C3 : Hid (∀ U, Below w.heap.size w U → Calls Try.prog 34 #[.slice r.A3 n3 r.c3, .slice r'.A3 n3 r'.c3] U fun e w' => e = .returned (.bool true) ∧ Below U.heap.size U w') := fun U hU => by
    have a := h.belowS hU
    have b := h'.belowS hU
    exact eqAskss_yes r.A3 r.c3 r.ah r'.A3 r'.c3 r'.ah U a.r3 b.r3 (fun k hk => a.asks k hk) (fun k hk => b.asks k hk) hs.ak a.m3 hn3 (hs.al.trans hn3)
  have C4 : Hid (∀ U, Below w.heap.size w U → Calls Try.prog 35 #[.slice r.A4 n4 r.c4, .slice r'.A4 n4 r'.c4] U fun e w' => e = .returned (.bool true) ∧ Below U.heap.size U w') := fun U hU => by
    have a := h.belowS hU
    have b := h'.belowS hU
    exact eqPieces_yes r.A4 r.c4 r.qh r'.A4 r'.c4 r'.qh U a.r4 b.r4 (fun k hk => a.piece k hk) (fun k hk => b.piece k hk) hs.qk a.m4 hn4 (hs.ql.trans hn4)
  clear h h' hs hn1 hn2 hn3 hn4
  obtain ⟨V0, HV0⟩ : ∃ W, Hid ((w.alloc (.cells #[.int .i64 sec, .int .i64 bad, .slice r.A1 n1 r.c1, .slice r.A2 n2 r.c2, .slice r.A3 n3 r.c3, .slice r.A4 n4 r.c4] 30)).alloc (.cells #[.int .i64 sec, .int .i64 bad, .slice r'.A1 n1 r'.c1, .slice r'.A2 n2 r'.c2, .slice r'.A3 n3 r'.c3, .slice r'.A4 n4 r'.c4] 30) = W) := ⟨_, rfl⟩
  have KA : Hid (Blk V0 w.heap.size 30 #[.int .i64 sec, .int .i64 bad, .slice r.A1 n1 r.c1, .slice r.A2 n2 r.c2, .slice r.A3 n3 r.c3, .slice r.A4 n4 r.c4]) := by rw [← HV0.out]; exact (Blk.new w _ _).alloc _
  have KB : Hid (Blk V0 (w.heap.size + 1) 30 #[.int .i64 sec, .int .i64 bad, .slice r'.A1 n1 r'.c1, .slice r'.A2 n2 r'.c2, .slice r'.A3 n3 r'.c3, .slice r'.A4 n4 r'.c4]) := by
    rw [← HV0.out]
    have := Blk.new (w.alloc (.cells #[.int .i64 sec, .int .i64 bad, .slice r.A1 n1 r.c1, .slice r.A2 n2 r.c2, .slice r.A3 n3 r.c3, .slice r.A4 n4 r.c4] 30)) 30 #[.int .i64 sec, .int .i64 bad, .slice r'.A1 n1 r'.c1, .slice r'.A2 n2 r'.c2, .slice r'.A3 n3 r'.c3, .slice r'.A4 n4 r'.c4]
    rwa [World.size_alloc] at this
  have HB : Hid (Below w.heap.size w V0) := by rw [← HV0.out]; exact ((Below.refl _ w).alloc (Nat.le_refl _) _).alloc (by rw [World.size_alloc]; omega) _
  have hz0 : w.heap.size < V0.heap.size := KA.out.lt
  have hz1 : w.heap.size + 1 < V0.heap.size := KB.out.lt
  obtain ⟨a0, a1, a2, a3, a4, a5⟩ := run_cells KA.out
  obtain ⟨b0, b1, b2, b3, b4, b5⟩ := run_cells KB.out
  have HBW : Hid (∀ U, Below V0.heap.size V0 U → Below w.heap.size w U) := fun U hU => HB.out.trans (hU.mono HB.out.size)
  go_enter Try.func11, Try.ntmps11
  go_upto_region 1 with fail
  rw [HV0.out]
  go_wp2_with fail
  refine (C1.out _ (HBW.out _ (Below.refl _ _))).mono ?_
  rintro e w1 ⟨rfl, hb⟩
  have HB1 : Hid (Below V0.heap.size V0 w1) := hb
  have KA1 := Lib.hid (KA.out.below HB1.out hz0)
  have KB1 := Lib.hid (KB.out.below HB1.out hz1)
  clear hb a0 a1 a2 a3 a4 a5 b0 b1 b2 b3 b4 b5
  obtain ⟨a0, a1, a2, a3, a4, a5⟩ := run_cells KA1.out
  obtain ⟨b0, b1, b2, b3, b4, b5⟩ := run_cells KB1.out
  go_wp2_with fail
  refine (C2.out _ (HBW.out _ HB1.out)).mono ?_
  rintro e w2 ⟨rfl, hb⟩
  have HB2 : Hid (Below V0.heap.size V0 w2) := HB1.out.trans (hb.mono HB1.out.size)
  have KA2 := Lib.hid (KA.out.below HB2.out hz0)
  have KB2 := Lib.hid (KB.out.below HB2.out hz1)
  clear hb a0 a1 a2 a3 a4 a5 b0 b1 b2 b3 b4 b5
  obtain ⟨a0, a1, a2, a3, a4, a5⟩ := run_cells KA2.out
  obtain ⟨b0, b1, b2, b3, b4, b5⟩ := run_cells KB2.out
  go_wp2_with fail
  refine (C3.out _ (HBW.out _ HB2.out)).mono ?_
  rintro e w3 ⟨rfl, hb⟩
  have HB3 : Hid (Below V0.heap.size V0 w3) := HB2.out.trans (hb.mono HB2.out.size)
  have KA3 := Lib.hid (KA.out.below HB3.out hz0)
  have KB3 := Lib.hid (KB.out.below HB3.out hz1)
  clear hb a0 a1 a2 a3 a4 a5 b0 b1 b2 b3 b4 b5
  obtain ⟨a0, a1, a2, a3, a4, a5⟩ := run_cells KA3.out
  obtain ⟨b0, b1, b2, b3, b4, b5⟩ := run_cells KB3.out
  go_wp2_with fail
  refine (C4.out _ (HBW.out _ HB3.out)).mono ?_
  rintro e w4 ⟨rfl, hb⟩
  have HB4 : Hid (Below V0.heap.size V0 w4) := HB3.out.trans (hb.mono HB3.out.size)
  have KA4 := Lib.hid (KA.out.below HB4.out hz0)
  have KB4 := Lib.hid (KB.out.below HB4.out hz1)
  clear hb a0 a1 a2 a3 a4 a5 b0 b1 b2 b3 b4 b5
  obtain ⟨a0, a1, a2, a3, a4, a5⟩ := run_cells KA4.out
  obtain ⟨b0, b1, b2, b3, b4, b5⟩ := run_cells KB4.out
  go_wp2
  go_ret
  exact ⟨rfl, HBW.out _ HB4.out⟩
end Go.Proofs.Ytkmebilhbjcfpaa
