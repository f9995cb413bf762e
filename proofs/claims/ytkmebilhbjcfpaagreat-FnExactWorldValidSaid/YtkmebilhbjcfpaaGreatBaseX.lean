/- Contract of the laws' function sameAsks at two lists that read alike: true. Condition: both lie in memory. Contract of the laws' function sameWorld at two runs that read alike: true. Condition: both lie in memory. Contracts of the laws' eqWorld and of what it calls, at values that read alike: true. Condition: both lie in memory. Contracts of szFeed at any rest, and of toFeed and eqFeed with the le -/
import Derived.Test.YtkmebilhbjcfpaaGreatAsks
import Derived.Test.YtkmebilhbjcfpaaGreatBaseA
import Derived.Deep.QuietTactic
import Derived.BigQuiet
import Derived.Lib.Hide
import Derived.Test.YtkmebilhbjcfpaaGreatBaseW
import Derived.Test.YtkmebilhbjcfpaaGreatBaseS
import Derived.Test.YtkmebilhbjcfpaaGreatBaseL
import Derived.Test.YtkmebilhbjcfpaaGreatSame
import Derived.Deep.RegionHeld3
import Derived.Test.YtkmebilhbjcfpaaGreatExactAsks
import Derived.Deep.DeepCutAuto
import Derived.Test.YtkmebilhbjcfpaaGreatExactRowN
import Derived.Test.YtkmebilhbjcfpaaGreatBaseD
namespace Go.Proofs.YtkmebilhbjcfpaaGreat
open Go.RowKit
set_option linter.unusedVariables false

end Go.Proofs.YtkmebilhbjcfpaaGreat

namespace Go.Proofs.YtkmebilhbjcfpaaGreat
open Go.RowKit
set_option linter.unusedVariables false

/-- Two representations of one run. -/
structure Alike (r r' : WR) : Prop where
  f : hfs r.fh = hfs r'.fh
  a : has r.ah = has r'.ah
  q : hps r.qh = hps r'.qh
theorem Alike.of_data {s b : Int} {r r' : WR} {ls : List LinkD} (h : dataW s b r ls = dataW s b r' ls) : Alike r r' := by
  unfold dataW at h
  injection h with h1 h2 h3 h4 h5 h6
  exact ⟨h3, h5, h6⟩
theorem Alike.refl (r : WR) : Alike r r := ⟨rfl, rfl, rfl⟩
theorem Alike.symm {r r' : WR} (h : Alike r r') : Alike r' r := ⟨h.f.symm, h.a.symm, h.q.symm⟩
theorem Alike.fl {r r' : WR} (h : Alike r r') : r'.fh.length = r.fh.length := by have := congrArg List.length h.f; rw [hfs_length, hfs_length] at this; exact this.symm
theorem Alike.al {r r' : WR} (h : Alike r r') : r'.ah.length = r.ah.length := by have := congrArg List.length h.a; rw [has_length, has_length] at this; exact this.symm
theorem Alike.ql {r r' : WR} (h : Alike r r') : r'.qh.length = r.qh.length := by have := congrArg List.length h.q; rw [hps_length, hps_length] at this; exact this.symm
theorem Alike.fk {r r' : WR} (h : Alike r r') (k : Nat) : (fhth r'.fh k).f = (fhth r.fh k).f := by rw [← fth_hfs, ← fth_hfs, h.f]
theorem Alike.ak {r r' : WR} (h : Alike r r') (k : Nat) : (ahth r'.ah k).xs = (ahth r.ah k).xs := by rw [← wth_has, ← wth_has, h.a]
theorem Alike.qk {r r' : WR} (h : Alike r r') (k : Nat) : (qhth r'.qh k).p = (qhth r.qh k).p := by rw [← pcth_hps, ← pcth_hps, h.q]

end Go.Proofs.YtkmebilhbjcfpaaGreat

namespace Go.Proofs.YtkmebilhbjcfpaaGreat
open Go.RowKit
set_option linter.unusedVariables false

set_option maxHeartbeats 2000000 in
set_option maxRecDepth 100000 in
theorem eqLink_yes (x y : Int) (w : World) :
    Calls Tryz.prog 89 #[.agg #[.int .i64 x, .int .i64 y], .agg #[.int .i64 x, .int .i64 y]] w fun e w' => e = .returned (.bool true) ∧ Below w.heap.size w w' := by
  go_enter Tryz.func89, Tryz.ntmps89
  go_wp2
  go_ret
  exact ⟨rfl, ((Below.refl _ w).alloc (Nat.le_refl _) _).alloc (by simp) _⟩

set_option maxHeartbeats 4000000 in
set_option maxRecDepth 100000 in
theorem eqPiece_yes (f t l i : Int) (tx : ByteArray) (A : Option Addr) (c : Nat) (A1 : Option Addr) (c1 : Nat) (n : Nat) (w : World)
    (HC : ∀ U, Below w.heap.size w U → Calls Tryz.prog 12 #[.slice A n c, .slice A1 n c1] U fun e w' => e = .returned (.bool true) ∧ ∃ q, w' = U.drewN q) :
    Calls Tryz.prog 91 #[.agg #[.int .i64 f, .int .i64 t, .int .i64 l, .int .i64 i, .string tx, .slice A n c], .agg #[.int .i64 f, .int .i64 t, .int .i64 l, .int .i64 i, .string tx, .slice A1 n c1]] w fun e w' => e = .returned (.bool true) ∧ Below w.heap.size w w' := by
  have H := Lib.hid HC
  clear HC
  obtain ⟨V0, HV0⟩ : ∃ W, Hid ((w.alloc (.cells #[.int .i64 f, .int .i64 t, .int .i64 l, .int .i64 i, .string tx, .slice A n c] 62)).alloc (.cells #[.int .i64 f, .int .i64 t, .int .i64 l, .int .i64 i, .string tx, .slice A1 n c1] 62) = W) := ⟨_, rfl⟩
  have KA : Hid (Blk V0 w.heap.size 62 #[.int .i64 f, .int .i64 t, .int .i64 l, .int .i64 i, .string tx, .slice A n c]) := by rw [← HV0.out]; exact (Blk.new w _ _).alloc _
  have KB : Hid (Blk V0 (w.heap.size + 1) 62 #[.int .i64 f, .int .i64 t, .int .i64 l, .int .i64 i, .string tx, .slice A1 n c1]) := by
    rw [← HV0.out]
    have := Blk.new (w.alloc (.cells #[.int .i64 f, .int .i64 t, .int .i64 l, .int .i64 i, .string tx, .slice A n c] 62)) 62 #[.int .i64 f, .int .i64 t, .int .i64 l, .int .i64 i, .string tx, .slice A1 n c1]
    rwa [World.size_alloc] at this
  have HB : Hid (Below w.heap.size w V0) := by rw [← HV0.out]; exact ((Below.refl _ w).alloc (Nat.le_refl _) _).alloc (by rw [World.size_alloc]; omega) _
  obtain ⟨a0, a1, a2, a3, a4, a5⟩ := run_cells KA.out
  obtain ⟨b0, b1, b2, b3, b4, b5⟩ := run_cells KB.out
  have CS := Lib.hid (H.out V0 HB.out)
  go_enter Tryz.func91, Tryz.ntmps91
  go_upto_region 1 with fail
  rw [HV0.out]
  go_wp2_with fail
  refine CS.out.mono ?_
  rintro e w2 ⟨rfl, qn, rfl⟩
  go_wp2
  go_ret
  exact ⟨rfl, below_drewN HB.out qn⟩

set_option maxHeartbeats 6000000 in
set_option maxRecDepth 100000 in
theorem eqFeeds_yes (A : Option Addr) (c : Nat) (hs : List FH) (A' : Option Addr) (c' : Nat) (hs' : List FH) (w : World) (h : RowAt FK w w.heap.size A hs) (h' : RowAt FK w w.heap.size A' hs') (hf : ∀ k, k < hs.length → FhAt w w.heap.size (fhth hs k)) (hf' : ∀ k, k < hs'.length → FhAt w w.heap.size (fhth hs' k)) (he : ∀ k, (fhth hs' k).f = (fhth hs k).f) (hm : hs.length ≤ maxLen) {n : Nat} (hn : hs.length = n) (hn' : hs'.length = n) :
    Calls Tryz.prog 36 #[.slice A n c, .slice A' n c'] w fun e w' => e = .returned (.bool true) ∧ Below w.heap.size w w' := by
  unfold maxLen at hm
  rw [hn] at hm
  have HA := Lib.hid h
  have HA' := Lib.hid h'
  have HF := Lib.hid hf
  have HF' := Lib.hid hf'
  have HE := Lib.hid he
  clear hf hf' he
  have HN := Lib.hid hn
  have HN' := Lib.hid hn'
  clear h h' hn hn'
  have hne : ((n : Int) != (n : Int)) = false := by simp
  go_enter Tryz.func36, Tryz.ntmps36
  go_wp2
  go_loopw [5] (fun i wr => ∃ k : Nat, k ≤ n ∧ i = .int .i64 (k : Int) ∧ Hid (Below w.heap.size w wr)) (fun i _ => n - (intOf i).toNat)
  case atStart => exact ⟨0, Nat.zero_le _, rfl, Below.refl _ _⟩
  case round =>
    obtain ⟨k, hk, rfl, HBr⟩ := hrel
    have hk0 : (0 : Int) ≤ (k : Int) := by omega
    by_cases hkn : k < n
    · have hki : (k : Int) < (n : Int) := by omega
      have HRa := Lib.hid (HA.out.belowS HBr.out)
      have HRb := Lib.hid (HA'.out.belowS HBr.out)
      obtain ⟨ca, oa, rfl⟩ := HRa.out.some_ (by rw [HN.out]; omega)
      obtain ⟨cb, ob, rfl⟩ := HRb.out.some_ (by rw [HN'.out]; omega)
      have hla := (HRa.out.lt (by rw [HN.out]; omega)).1
      have hlb := (HRb.out.lt (by rw [HN'.out]; omega)).1
      obtain ⟨c0, c1, c2, c3, c4, c5⟩ := feed_cells6 HRa.out k (by rw [HN.out]; exact hkn)
      obtain ⟨d0, d1, d2, d3, d4, d5⟩ := feed_cells6 HRb.out k (by rw [HN'.out]; exact hkn)
      have HFa := Lib.hid (HF.out k (by rw [HN.out]; exact hkn))
      have HFb := Lib.hid (HF'.out k (by rw [HN'.out]; exact hkn))
      have HEk := Lib.hid (HE.out k)
      obtain ⟨X, HX⟩ : ∃ x, Hid (fhth hs k = x) := ⟨_, rfl⟩
      obtain ⟨Y, HY⟩ : ∃ x, Hid (fhth hs' k = x) := ⟨_, rfl⟩
      rw [HX.out] at c0 c1 c2 c3 c4 c5 HFa HEk
      rw [HY.out] at d0 d1 d2 d3 d4 d5 HFb HEk
      obtain ⟨⟨xp, xl, xd, xs, xbs, xhs⟩, xa1, xc1, xa2, xc2⟩ := X
      obtain ⟨yf, ya1, yc1, ya2, yc2⟩ := Y
      have heq := HEk.out
      dsimp only at heq
      subst heq
      dsimp only at c0 c1 c2 c3 c4 c5 d0 d1 d2 d3 d4 d5
      have CS : Hid (∀ U, Below wr.heap.size wr U → Calls Tryz.prog 88 #[feedV xp xl xd xs xa1 xbs.length xc1 xa2 xhs.length xc2, feedV xp xl xd xs ya1 xbs.length yc1 ya2 xhs.length yc2] U fun e w' => e = .returned (.bool true) ∧ Below U.heap.size U w') := fun U hU =>
        eqFeed_same xp xl xd xs xa1 xc1 xa2 xc2 ya1 yc1 ya2 yc2 xbs xhs U (HFa.out.feed.belowS (HBr.out.trans (hU.mono HBr.out.size))) (HFb.out.feed.belowS (HBr.out.trans (hU.mono HBr.out.size)))
      obtain ⟨y1, HY1⟩ : ∃ x, Hid (xbs.length = x) := ⟨_, rfl⟩
      obtain ⟨y2, HY2⟩ : ∃ x, Hid (xhs.length = x) := ⟨_, rfl⟩
      rw [HY1.out] at c4 d4 CS
      rw [HY2.out] at c5 d5 CS
      go_wp2_with fail
      go_region_held3 (fun w' => w'.cell? ⟨ca, oa + k * 6, none⟩ = some (.int .i64 xp) ∧ w'.cell? ⟨ca, oa + k * 6 + 1, none⟩ = some (.int .i64 xl) ∧ w'.cell? ⟨ca, oa + k * 6 + 2, none⟩ = some (.int .i64 xd) ∧ w'.cell? ⟨ca, oa + k * 6 + 3, none⟩ = some (.int .i64 xs) ∧ w'.cell? ⟨ca, oa + k * 6 + 4, none⟩ = some (.slice xa1 y1 xc1) ∧ w'.cell? ⟨ca, oa + k * 6 + 5, none⟩ = some (.slice xa2 y2 xc2) ∧ w'.cell? ⟨cb, ob + k * 6, none⟩ = some (.int .i64 xp) ∧ w'.cell? ⟨cb, ob + k * 6 + 1, none⟩ = some (.int .i64 xl) ∧ w'.cell? ⟨cb, ob + k * 6 + 2, none⟩ = some (.int .i64 xd) ∧ w'.cell? ⟨cb, ob + k * 6 + 3, none⟩ = some (.int .i64 xs) ∧ w'.cell? ⟨cb, ob + k * 6 + 4, none⟩ = some (.slice ya1 y1 yc1) ∧ w'.cell? ⟨cb, ob + k * 6 + 5, none⟩ = some (.slice ya2 y2 yc2)) (go_keep)
        (first
          | (go_at_call 88; (with_reducible refine (CS.out _ ?_).mono ?_); exact below_drew (Below.refl _ _); rintro e w2 ⟨rfl, hb2⟩; have HB2 : Hid (Below wr.heap.size wr w2) := below_drew_l hb2; have HB2w : Hid (Below w.heap.size w w2) := HBr.out.trans (HB2.out.mono HBr.out.size); have z0 := (HB2.out.cell (p := ⟨ca, oa + k * 6, none⟩) hla).trans c0; have z1 := (HB2.out.cell (p := ⟨ca, oa + k * 6 + 1, none⟩) hla).trans c1; have z2 := (HB2.out.cell (p := ⟨ca, oa + k * 6 + 2, none⟩) hla).trans c2; have z3 := (HB2.out.cell (p := ⟨ca, oa + k * 6 + 3, none⟩) hla).trans c3; have z4 := (HB2.out.cell (p := ⟨ca, oa + k * 6 + 4, none⟩) hla).trans c4; have z5 := (HB2.out.cell (p := ⟨ca, oa + k * 6 + 5, none⟩) hla).trans c5; have z6 := (HB2.out.cell (p := ⟨cb, ob + k * 6, none⟩) hlb).trans d0; have z7 := (HB2.out.cell (p := ⟨cb, ob + k * 6 + 1, none⟩) hlb).trans d1; have z8 := (HB2.out.cell (p := ⟨cb, ob + k * 6 + 2, none⟩) hlb).trans d2; have z9 := (HB2.out.cell (p := ⟨cb, ob + k * 6 + 3, none⟩) hlb).trans d3; have z10 := (HB2.out.cell (p := ⟨cb, ob + k * 6 + 4, none⟩) hlb).trans d4; have z11 := (HB2.out.cell (p := ⟨cb, ob + k * 6 + 5, none⟩) hlb).trans d5; clear hb2))
      go_wp2
      go_roundw
      case rel => exact ⟨k + 1, by omega, by go_num, HB2w.out⟩
      case measure => simp [intOf]; omega
    · have hke : k = n := by omega
      subst hke
      go_wp2
      go_ret
      exact ⟨rfl, HBr.out⟩

set_option maxHeartbeats 6000000 in
set_option maxRecDepth 100000 in
theorem eqLinks_yes (A : Option Addr) (c : Nat) (hs : List LinkD) (A' : Option Addr) (c' : Nat) (hs' : List LinkD) (w : World) (h : RowAt NK w w.heap.size A hs) (h' : RowAt NK w w.heap.size A' hs') (he : hs' = hs) (hm : hs.length ≤ maxLen) {n : Nat} (hn : hs.length = n) (hn' : hs'.length = n) :
    Calls Tryz.prog 37 #[.slice A n c, .slice A' n c'] w fun e w' => e = .returned (.bool true) ∧ Below w.heap.size w w' := by
  unfold maxLen at hm
  rw [hn] at hm
  have HA := Lib.hid h
  have HA' := Lib.hid h'
  subst he
  have HN := Lib.hid hn
  have HN' := Lib.hid hn'
  clear h h' hn hn'
  have hne : ((n : Int) != (n : Int)) = false := by simp
  go_enter Tryz.func37, Tryz.ntmps37
  go_wp2
  go_loopw [5] (fun i wr => ∃ k : Nat, k ≤ n ∧ i = .int .i64 (k : Int) ∧ Hid (Below w.heap.size w wr)) (fun i _ => n - (intOf i).toNat)
  case atStart => exact ⟨0, Nat.zero_le _, rfl, Below.refl _ _⟩
  case round =>
    obtain ⟨k, hk, rfl, HBr⟩ := hrel
    have hk0 : (0 : Int) ≤ (k : Int) := by omega
    by_cases hkn : k < n
    · have hki : (k : Int) < (n : Int) := by omega
      have HRa := Lib.hid (HA.out.belowS HBr.out)
      have HRb := Lib.hid (HA'.out.belowS HBr.out)
      obtain ⟨ca, oa, rfl⟩ := HRa.out.some_ (by rw [HN.out]; omega)
      obtain ⟨cb, ob, rfl⟩ := HRb.out.some_ (by rw [HN'.out]; omega)
      have hla := (HRa.out.lt (by rw [HN.out]; omega)).1
      have hlb := (HRb.out.lt (by rw [HN'.out]; omega)).1
      obtain ⟨c0, c1⟩ := link_cells2 HRa.out k (by rw [HN.out]; exact hkn)
      obtain ⟨d0, d1⟩ := link_cells2 HRb.out k (by rw [HN.out]; exact hkn)
      obtain ⟨x1, HX1⟩ : ∃ x, (kth2 hs' k).a = x := ⟨_, rfl⟩
      obtain ⟨x2, HX2⟩ : ∃ x, (kth2 hs' k).b = x := ⟨_, rfl⟩
      rw [HX1] at c0 d0
      rw [HX2] at c1 d1
      clear HX1 HX2
      have CS := Lib.hid (fun U => eqLink_yes x1 x2 U)
      go_wp2_with fail
      go_region_held3 (fun w' => w'.cell? ⟨ca, oa + k * 2, none⟩ = some (.int .i64 x1) ∧ w'.cell? ⟨ca, oa + k * 2 + 1, none⟩ = some (.int .i64 x2) ∧ w'.cell? ⟨cb, ob + k * 2, none⟩ = some (.int .i64 x1) ∧ w'.cell? ⟨cb, ob + k * 2 + 1, none⟩ = some (.int .i64 x2)) (go_keep)
        (first
          | (go_at_call 89; (with_reducible refine (CS.out _).mono ?_); rintro e w2 ⟨rfl, hb2⟩; have HB2 : Hid (Below wr.heap.size wr w2) := below_drew_l hb2; have HB2w : Hid (Below w.heap.size w w2) := HBr.out.trans (HB2.out.mono HBr.out.size); have z0 := (HB2.out.cell (p := ⟨ca, oa + k * 2, none⟩) hla).trans c0; have z1 := (HB2.out.cell (p := ⟨ca, oa + k * 2 + 1, none⟩) hla).trans c1; have z2 := (HB2.out.cell (p := ⟨cb, ob + k * 2, none⟩) hlb).trans d0; have z3 := (HB2.out.cell (p := ⟨cb, ob + k * 2 + 1, none⟩) hlb).trans d1; clear hb2))
      go_wp2
      go_roundw
      case rel => exact ⟨k + 1, by omega, by go_num, HB2w.out⟩
      case measure => simp [intOf]; omega
    · have hke : k = n := by omega
      subst hke
      go_wp2
      go_ret
      exact ⟨rfl, HBr.out⟩

set_option maxHeartbeats 6000000 in
set_option maxRecDepth 100000 in
theorem eqAskss_yes (A : Option Addr) (c : Nat) (hs : List AH) (A' : Option Addr) (c' : Nat) (hs' : List AH) (w : World) (h : RowAt HK2 w w.heap.size A hs) (h' : RowAt HK2 w w.heap.size A' hs') (hf : ∀ k, k < hs.length → AsksAt w w.heap.size (ahth hs k).a (ahth hs k).c (ahth hs k).xs) (hf' : ∀ k, k < hs'.length → AsksAt w w.heap.size (ahth hs' k).a (ahth hs' k).c (ahth hs' k).xs) (he : ∀ k, (ahth hs' k).xs = (ahth hs k).xs) (hm : hs.length ≤ maxLen) {n : Nat} (hn : hs.length = n) (hn' : hs'.length = n) :
    Calls Tryz.prog 38 #[.slice A n c, .slice A' n c'] w fun e w' => e = .returned (.bool true) ∧ Below w.heap.size w w' := by
  unfold maxLen at hm
  rw [hn] at hm
  have HA := Lib.hid h
  have HA' := Lib.hid h'
  have HF := Lib.hid hf
  have HF' := Lib.hid hf'
  have HE := Lib.hid he
  clear hf hf' he
  have HN := Lib.hid hn
  have HN' := Lib.hid hn'
  clear h h' hn hn'
  have hne : ((n : Int) != (n : Int)) = false := by simp
  go_enter Tryz.func38, Tryz.ntmps38
  go_wp2
  go_loopw [5] (fun i wr => ∃ k : Nat, k ≤ n ∧ i = .int .i64 (k : Int) ∧ Hid (Below w.heap.size w wr)) (fun i _ => n - (intOf i).toNat)
  case atStart => exact ⟨0, Nat.zero_le _, rfl, Below.refl _ _⟩
  case round =>
    obtain ⟨k, hk, rfl, HBr⟩ := hrel
    have hk0 : (0 : Int) ≤ (k : Int) := by omega
    by_cases hkn : k < n
    · have hki : (k : Int) < (n : Int) := by omega
      have HRa := Lib.hid (HA.out.belowS HBr.out)
      have HRb := Lib.hid (HA'.out.belowS HBr.out)
      obtain ⟨ca, oa, rfl⟩ := HRa.out.some_ (by rw [HN.out]; omega)
      obtain ⟨cb, ob, rfl⟩ := HRb.out.some_ (by rw [HN'.out]; omega)
      have hla := (HRa.out.lt (by rw [HN.out]; omega)).1
      have hlb := (HRb.out.lt (by rw [HN'.out]; omega)).1
      have c0 := asks_cell1 HRa.out k (by rw [HN.out]; exact hkn)
      have d0 := asks_cell1 HRb.out k (by rw [HN'.out]; exact hkn)
      have HFa := Lib.hid (HF.out k (by rw [HN.out]; exact hkn))
      have HFb := Lib.hid (HF'.out k (by rw [HN'.out]; exact hkn))
      have HEk := Lib.hid (HE.out k)
      obtain ⟨X, HX⟩ : ∃ x, Hid (ahth hs k = x) := ⟨_, rfl⟩
      obtain ⟨Y, HY⟩ : ∃ x, Hid (ahth hs' k = x) := ⟨_, rfl⟩
      rw [HX.out] at c0 HFa HEk
      rw [HY.out] at d0 HFb HEk
      obtain ⟨xa1, xc1, xxs⟩ := X
      obtain ⟨ya1, yc1, yxs⟩ := Y
      have heq := HEk.out
      dsimp only at heq
      subst heq
      dsimp only at c0 d0
      obtain ⟨y1, HY1⟩ : ∃ x, Hid (yxs.length = x) := ⟨_, rfl⟩
      have CS : Hid (∀ U, Below wr.heap.size wr U → Calls Tryz.prog 90 #[.slice xa1 y1 xc1, .slice ya1 y1 yc1] U fun e w' => e = .returned (.bool true) ∧ Below U.heap.size U w') := fun U hU =>
        eqAs_any xa1 xc1 ya1 yc1 yxs U (HFa.out.belowS (HBr.out.trans (hU.mono HBr.out.size))).row (HFb.out.belowS (HBr.out.trans (hU.mono HBr.out.size))).row (Nat.le_trans HFa.out.le HFa.out.most) HY1.out
      rw [HY1.out] at c0 d0
      go_wp2_with fail
      go_region_held3 (fun w' => w'.cell? ⟨ca, oa + k, none⟩ = some (.slice xa1 y1 xc1) ∧ w'.cell? ⟨cb, ob + k, none⟩ = some (.slice ya1 y1 yc1)) (go_keep)
        (first
          | (go_at_call 90; (with_reducible refine (CS.out _ ?_).mono ?_); exact below_drew (Below.refl _ _); rintro e w2 ⟨rfl, hb2⟩; have HB2 : Hid (Below wr.heap.size wr w2) := below_drew_l hb2; have HB2w : Hid (Below w.heap.size w w2) := HBr.out.trans (HB2.out.mono HBr.out.size); have z0 := (HB2.out.cell (p := ⟨ca, oa + k, none⟩) hla).trans c0; have z1 := (HB2.out.cell (p := ⟨cb, ob + k, none⟩) hlb).trans d0; clear hb2))
      go_wp2
      go_roundw
      case rel => exact ⟨k + 1, by omega, by go_num, HB2w.out⟩
      case measure => simp [intOf]; omega
    · have hke : k = n := by omega
      subst hke
      go_wp2
      go_ret
      exact ⟨rfl, HBr.out⟩

set_option maxHeartbeats 6000000 in
set_option maxRecDepth 100000 in
theorem eqPieces_yes (A : Option Addr) (c : Nat) (hs : List QH) (A' : Option Addr) (c' : Nat) (hs' : List QH) (w : World) (h : RowAt QK w w.heap.size A hs) (h' : RowAt QK w w.heap.size A' hs') (hf : ∀ k, k < hs.length → QhAt w w.heap.size (qhth hs k)) (hf' : ∀ k, k < hs'.length → QhAt w w.heap.size (qhth hs' k)) (he : ∀ k, (qhth hs' k).p = (qhth hs k).p) (hm : hs.length ≤ maxLen) {n : Nat} (hn : hs.length = n) (hn' : hs'.length = n) :
    Calls Tryz.prog 39 #[.slice A n c, .slice A' n c'] w fun e w' => e = .returned (.bool true) ∧ Below w.heap.size w w' := by
  unfold maxLen at hm
  rw [hn] at hm
  have HA := Lib.hid h
  have HA' := Lib.hid h'
  have HF := Lib.hid hf
  have HF' := Lib.hid hf'
  have HE := Lib.hid he
  clear hf hf' he
  have HN := Lib.hid hn
  have HN' := Lib.hid hn'
  clear h h' hn hn'
  have hne : ((n : Int) != (n : Int)) = false := by simp
  go_enter Tryz.func39, Tryz.ntmps39
  go_wp2
  go_loopw [5] (fun i wr => ∃ k : Nat, k ≤ n ∧ i = .int .i64 (k : Int) ∧ Hid (Below w.heap.size w wr)) (fun i _ => n - (intOf i).toNat)
  case atStart => exact ⟨0, Nat.zero_le _, rfl, Below.refl _ _⟩
  case round =>
    obtain ⟨k, hk, rfl, HBr⟩ := hrel
    have hk0 : (0 : Int) ≤ (k : Int) := by omega
    by_cases hkn : k < n
    · have hki : (k : Int) < (n : Int) := by omega
      have HRa := Lib.hid (HA.out.belowS HBr.out)
      have HRb := Lib.hid (HA'.out.belowS HBr.out)
      obtain ⟨ca, oa, rfl⟩ := HRa.out.some_ (by rw [HN.out]; omega)
      obtain ⟨cb, ob, rfl⟩ := HRb.out.some_ (by rw [HN'.out]; omega)
      have hla := (HRa.out.lt (by rw [HN.out]; omega)).1
      have hlb := (HRb.out.lt (by rw [HN'.out]; omega)).1
      obtain ⟨c0, c1, c2, c3, c4, c5⟩ := piece_cells6 HRa.out k (by rw [HN.out]; exact hkn)
      obtain ⟨d0, d1, d2, d3, d4, d5⟩ := piece_cells6 HRb.out k (by rw [HN'.out]; exact hkn)
      have HFa := Lib.hid (HF.out k (by rw [HN.out]; exact hkn))
      have HFb := Lib.hid (HF'.out k (by rw [HN'.out]; exact hkn))
      have HEk := Lib.hid (HE.out k)
      obtain ⟨X, HX⟩ : ∃ x, Hid (qhth hs k = x) := ⟨_, rfl⟩
      obtain ⟨Y, HY⟩ : ∃ x, Hid (qhth hs' k = x) := ⟨_, rfl⟩
      rw [HX.out] at c0 c1 c2 c3 c4 c5 HFa HEk
      rw [HY.out] at d0 d1 d2 d3 d4 d5 HFb HEk
      obtain ⟨⟨xf, xt, xl, xi, xtx, xpf⟩, xa1, xc1⟩ := X
      obtain ⟨yf, ya1, yc1⟩ := Y
      have heq := HEk.out
      dsimp only at heq
      subst heq
      dsimp only at c0 c1 c2 c3 c4 c5 d0 d1 d2 d3 d4 d5
      obtain ⟨y1, HY1⟩ : ∃ x, Hid (xpf.length = x) := ⟨_, rfl⟩
      have CS : Hid (∀ U, Below wr.heap.size wr U → Calls Tryz.prog 91 #[.agg #[.int .i64 xf, .int .i64 xt, .int .i64 xl, .int .i64 xi, .string xtx, .slice xa1 y1 xc1], .agg #[.int .i64 xf, .int .i64 xt, .int .i64 xl, .int .i64 xi, .string xtx, .slice ya1 y1 yc1]] U fun e w' => e = .returned (.bool true) ∧ Below U.heap.size U w') := fun U hU =>
        eqPiece_yes xf xt xl xi xtx xa1 xc1 ya1 yc1 y1 U (fun U2 hU2 => by
          have hB := HBr.out.trans ((hU.trans (hU2.mono hU.size)).mono HBr.out.size)
          have hm := Nat.le_trans HFa.out.le HFa.out.most
          have := eqi_any xa1 xc1 xpf ya1 yc1 xpf U2 (HFa.out.ints.belowS hB) (HFb.out.ints.belowS hB) hm hm
          rw [HY1.out, decide_eq_true rfl] at this
          exact this)
      rw [HY1.out] at c5 d5
      go_wp2_with fail
      go_region_held3 (fun w' => w'.cell? ⟨ca, oa + k * 6, none⟩ = some (.int .i64 xf) ∧ w'.cell? ⟨ca, oa + k * 6 + 1, none⟩ = some (.int .i64 xt) ∧ w'.cell? ⟨ca, oa + k * 6 + 2, none⟩ = some (.int .i64 xl) ∧ w'.cell? ⟨ca, oa + k * 6 + 3, none⟩ = some (.int .i64 xi) ∧ w'.cell? ⟨ca, oa + k * 6 + 4, none⟩ = some (.string xtx) ∧ w'.cell? ⟨ca, oa + k * 6 + 5, none⟩ = some (.slice xa1 y1 xc1) ∧ w'.cell? ⟨cb, ob + k * 6, none⟩ = some (.int .i64 xf) ∧ w'.cell? ⟨cb, ob + k * 6 + 1, none⟩ = some (.int .i64 xt) ∧ w'.cell? ⟨cb, ob + k * 6 + 2, none⟩ = some (.int .i64 xl) ∧ w'.cell? ⟨cb, ob + k * 6 + 3, none⟩ = some (.int .i64 xi) ∧ w'.cell? ⟨cb, ob + k * 6 + 4, none⟩ = some (.string xtx) ∧ w'.cell? ⟨cb, ob + k * 6 + 5, none⟩ = some (.slice ya1 y1 yc1)) (go_keep)
        (first
          | (go_at_call 91; (with_reducible refine (CS.out _ ?_).mono ?_); exact below_drew (Below.refl _ _); rintro e w2 ⟨rfl, hb2⟩; have HB2 : Hid (Below wr.heap.size wr w2) := below_drew_l hb2; have HB2w : Hid (Below w.heap.size w w2) := HBr.out.trans (HB2.out.mono HBr.out.size); have z0 := (HB2.out.cell (p := ⟨ca, oa + k * 6, none⟩) hla).trans c0; have z1 := (HB2.out.cell (p := ⟨ca, oa + k * 6 + 1, none⟩) hla).trans c1; have z2 := (HB2.out.cell (p := ⟨ca, oa + k * 6 + 2, none⟩) hla).trans c2; have z3 := (HB2.out.cell (p := ⟨ca, oa + k * 6 + 3, none⟩) hla).trans c3; have z4 := (HB2.out.cell (p := ⟨ca, oa + k * 6 + 4, none⟩) hla).trans c4; have z5 := (HB2.out.cell (p := ⟨ca, oa + k * 6 + 5, none⟩) hla).trans c5; have z6 := (HB2.out.cell (p := ⟨cb, ob + k * 6, none⟩) hlb).trans d0; have z7 := (HB2.out.cell (p := ⟨cb, ob + k * 6 + 1, none⟩) hlb).trans d1; have z8 := (HB2.out.cell (p := ⟨cb, ob + k * 6 + 2, none⟩) hlb).trans d2; have z9 := (HB2.out.cell (p := ⟨cb, ob + k * 6 + 3, none⟩) hlb).trans d3; have z10 := (HB2.out.cell (p := ⟨cb, ob + k * 6 + 4, none⟩) hlb).trans d4; have z11 := (HB2.out.cell (p := ⟨cb, ob + k * 6 + 5, none⟩) hlb).trans d5; clear hb2))
      go_wp2
      go_roundw
      case rel => exact ⟨k + 1, by omega, by go_num, HB2w.out⟩
      case measure => simp [intOf]; omega
    · have hke : k = n := by omega
      subst hke
      go_wp2
      go_ret
      exact ⟨rfl, HBr.out⟩

set_option maxHeartbeats 6000000 in
set_option maxRecDepth 100000 in
theorem eqRun_yes (sec bad : Int) (r r' : WR) (ls : List LinkD) (w : World) (h : RunAt w w.heap.size r ls) (h' : RunAt w w.heap.size r' ls) (hs : Alike r r') {n1 n2 n3 n4 : Nat} (hn1 : r.fh.length = n1) (hn2 : ls.length = n2) (hn3 : r.ah.length = n3) (hn4 : r.qh.length = n4) :
    Calls Tryz.prog 9 #[.agg #[.int .i64 sec, .int .i64 bad, .slice r.A1 n1 r.c1, .slice r.A2 n2 r.c2, .slice r.A3 n3 r.c3, .slice r.A4 n4 r.c4], .agg #[.int .i64 sec, .int .i64 bad, .slice r'.A1 n1 r'.c1, .slice r'.A2 n2 r'.c2, .slice r'.A3 n3 r'.c3, .slice r'.A4 n4 r'.c4]] w fun e w' => e = .returned (.bool true) ∧ Below w.heap.size w w' := by
  have C1 : Hid (∀ U, Below w.heap.size w U → Calls Tryz.prog 36 #[.slice r.A1 n1 r.c1, .slice r'.A1 n1 r'.c1] U fun e w' => e = .returned (.bool true) ∧ Below U.heap.size U w') := fun U hU => by
    have a := h.belowS hU
    have b := h'.belowS hU
    exact eqFeeds_yes r.A1 r.c1 r.fh r'.A1 r'.c1 r'.fh U a.r1 b.r1 (fun k hk => a.feed k hk) (fun k hk => b.feed k hk) hs.fk a.m1 hn1 (hs.fl.trans hn1)
  have C2 : Hid (∀ U, Below w.heap.size w U → Calls Tryz.prog 37 #[.slice r.A2 n2 r.c2, .slice r'.A2 n2 r'.c2] U fun e w' => e = .returned (.bool true) ∧ Below U.heap.size U w') := fun U hU => by
    have a := h.belowS hU
    have b := h'.belowS hU
    exact eqLinks_yes r.A2 r.c2 ls r'.A2 r'.c2 ls U a.r2 b.r2 rfl a.m2 hn2 hn2
  have C3 : Hid (∀ U, Below w.heap.size w U → Calls Tryz.prog 38 #[.slice r.A3 n3 r.c3, .slice r'.A3 n3 r'.c3] U fun e w' => e = .returned (.bool true) ∧ Below U.heap.size U w') := fun U hU => by
    have a := h.belowS hU
    have b := h'.belowS hU
    exact eqAskss_yes r.A3 r.c3 r.ah r'.A3 r'.c3 r'.ah U a.r3 b.r3 (fun k hk => a.asks k hk) (fun k hk => b.asks k hk) hs.ak a.m3 hn3 (hs.al.trans hn3)
  have C4 : Hid (∀ U, Below w.heap.size w U → Calls Tryz.prog 39 #[.slice r.A4 n4 r.c4, .slice r'.A4 n4 r'.c4] U fun e w' => e = .returned (.bool true) ∧ Below U.heap.size U w') := fun U hU => by
    have a := h.belowS hU
    have b := h'.belowS hU
    exact eqPieces_yes r.A4 r.c4 r.qh r'.A4 r'.c4 r'.qh U a.r4 b.r4 (fun k hk => a.piece k hk) (fun k hk => b.piece k hk) hs.qk a.m4 hn4 (hs.ql.trans hn4)
  clear h h' hs hn1 hn2 hn3 hn4
  obtain ⟨V0, HV0⟩ : ∃ W, Hid ((w.alloc (.cells #[.int .i64 sec, .int .i64 bad, .slice r.A1 n1 r.c1, .slice r.A2 n2 r.c2, .slice r.A3 n3 r.c3, .slice r.A4 n4 r.c4] 35)).alloc (.cells #[.int .i64 sec, .int .i64 bad, .slice r'.A1 n1 r'.c1, .slice r'.A2 n2 r'.c2, .slice r'.A3 n3 r'.c3, .slice r'.A4 n4 r'.c4] 35) = W) := ⟨_, rfl⟩
  have KA : Hid (Blk V0 w.heap.size 35 #[.int .i64 sec, .int .i64 bad, .slice r.A1 n1 r.c1, .slice r.A2 n2 r.c2, .slice r.A3 n3 r.c3, .slice r.A4 n4 r.c4]) := by rw [← HV0.out]; exact (Blk.new w _ _).alloc _
  have KB : Hid (Blk V0 (w.heap.size + 1) 35 #[.int .i64 sec, .int .i64 bad, .slice r'.A1 n1 r'.c1, .slice r'.A2 n2 r'.c2, .slice r'.A3 n3 r'.c3, .slice r'.A4 n4 r'.c4]) := by
    rw [← HV0.out]
    have := Blk.new (w.alloc (.cells #[.int .i64 sec, .int .i64 bad, .slice r.A1 n1 r.c1, .slice r.A2 n2 r.c2, .slice r.A3 n3 r.c3, .slice r.A4 n4 r.c4] 35)) 35 #[.int .i64 sec, .int .i64 bad, .slice r'.A1 n1 r'.c1, .slice r'.A2 n2 r'.c2, .slice r'.A3 n3 r'.c3, .slice r'.A4 n4 r'.c4]
    rwa [World.size_alloc] at this
  have HB : Hid (Below w.heap.size w V0) := by rw [← HV0.out]; exact ((Below.refl _ w).alloc (Nat.le_refl _) _).alloc (by rw [World.size_alloc]; omega) _
  have hz0 : w.heap.size < V0.heap.size := KA.out.lt
  have hz1 : w.heap.size + 1 < V0.heap.size := KB.out.lt
  obtain ⟨a0, a1, a2, a3, a4, a5⟩ := run_cells KA.out
  obtain ⟨b0, b1, b2, b3, b4, b5⟩ := run_cells KB.out
  have HBW : Hid (∀ U, Below V0.heap.size V0 U → Below w.heap.size w U) := fun U hU => HB.out.trans (hU.mono HB.out.size)
  go_enter Tryz.func9, Tryz.ntmps9
  go_upto_region 1 with fail
  rw [HV0.out]
  go_wp2_with fail
  refine (C1.out _ (HBW.out _ (Below.refl _ _))).mono ?_
  rintro e w1 ⟨rfl, hb⟩
  have HB1 : Hid (Below V0.heap.size V0 w1) := hb
  have KA1 := Lib.hid (KA.out.below HB1.out hz0)
  have KB1 := Lib.hid (KB.out.below HB1.out hz1)
  clear hb a0 a1 a2 a3 a4 a5 b0 b1 b2 b3 b4 b5
  obtain ⟨a0, a1, a2, a3, a4, a5⟩ := run_cells KA1.out
  obtain ⟨b0, b1, b2, b3, b4, b5⟩ := run_cells KB1.out
  go_wp2_with fail
  refine (C2.out _ (HBW.out _ HB1.out)).mono ?_
  rintro e w2 ⟨rfl, hb⟩
  have HB2 : Hid (Below V0.heap.size V0 w2) := HB1.out.trans (hb.mono HB1.out.size)
  have KA2 := Lib.hid (KA.out.below HB2.out hz0)
  have KB2 := Lib.hid (KB.out.below HB2.out hz1)
  clear hb a0 a1 a2 a3 a4 a5 b0 b1 b2 b3 b4 b5
  obtain ⟨a0, a1, a2, a3, a4, a5⟩ := run_cells KA2.out
  obtain ⟨b0, b1, b2, b3, b4, b5⟩ := run_cells KB2.out
  go_wp2_with fail
  refine (C3.out _ (HBW.out _ HB2.out)).mono ?_
  rintro e w3 ⟨rfl, hb⟩
  have HB3 : Hid (Below V0.heap.size V0 w3) := HB2.out.trans (hb.mono HB2.out.size)
  have KA3 := Lib.hid (KA.out.below HB3.out hz0)
  have KB3 := Lib.hid (KB.out.below HB3.out hz1)
  clear hb a0 a1 a2 a3 a4 a5 b0 b1 b2 b3 b4 b5
  obtain ⟨a0, a1, a2, a3, a4, a5⟩ := run_cells KA3.out
  obtain ⟨b0, b1, b2, b3, b4, b5⟩ := run_cells KB3.out
  go_wp2_with fail
  refine (C4.out _ (HBW.out _ HB3.out)).mono ?_
  rintro e w4 ⟨rfl, hb⟩
  have HB4 : Hid (Below V0.heap.size V0 w4) := HB3.out.trans (hb.mono HB3.out.size)
  have KA4 := Lib.hid (KA.out.below HB4.out hz0)
  have KB4 := Lib.hid (KB.out.below HB4.out hz1)
  clear hb a0 a1 a2 a3 a4 a5 b0 b1 b2 b3 b4 b5
  obtain ⟨a0, a1, a2, a3, a4, a5⟩ := run_cells KA4.out
  obtain ⟨b0, b1, b2, b3, b4, b5⟩ := run_cells KB4.out
  go_wp2
  go_ret
  exact ⟨rfl, HBW.out _ HB4.out⟩
end Go.Proofs.YtkmebilhbjcfpaaGreat

namespace Go.Proofs.YtkmebilhbjcfpaaGreat
open Go.RowKit
set_option linter.unusedVariables false

/-- What szFeed answers: at least 0 only if the lists are short. -/
def SizedL (left : Int) (w : World) (bs : List ByteArray) (hs : List Bool) (e : Ending) (w' : World) : Prop :=
  ∃ r : Int, e = .returned (.int .i64 r) ∧ -1 ≤ r ∧ r ≤ left ∧ (0 ≤ r → bs.length ≤ 1048576 ∧ hs.length ≤ 1048576) ∧ Below w.heap.size w w'

set_option maxHeartbeats 2000000 in
set_option maxRecDepth 100000 in
theorem szFeed_left (left : Int) (h0 : 0 ≤ left) (h1 : left ≤ 1048576) (p l d s : Int) (A1 : Option Addr) (c1 : Nat) (A2 : Option Addr) (c2 : Nat) (bs : List ByteArray) (hs : List Bool) (w : World) (hF : FeedAt w w.heap.size A1 A2 bs hs) :
    Calls Tryz.prog 47 #[feedV p l d s A1 bs.length c1 A2 hs.length c2, .int .i64 left] w (SizedL left w bs hs) := by
  have HF := Lib.hid hF
  have hlb := hF.lb
  have hlh := hF.lh
  clear hF
  have hbel : Below w.heap.size w (w.alloc (.cells (feedC p l d s A1 bs.length c1 A2 hs.length c2) 85)) := (Below.refl _ w).alloc (Nat.le_refl _) _
  have HB := Lib.hid hbel
  have C1 := Lib.hid (szStr_any A1 c1 bs left _ (HF.out.belowS hbel).strs HF.out.fit hlb h0 h1)
  clear hbel
  obtain ⟨m, HM⟩ : ∃ m, Hid (bs.length = m) := ⟨_, rfl⟩
  obtain ⟨n, HN⟩ : ∃ n, Hid (hs.length = n) := ⟨_, rfl⟩
  have FIN : Hid (∀ (r : Int) (W : World), -1 ≤ r → r ≤ left → (0 ≤ r → m ≤ 1048576 ∧ n ≤ 1048576) → Below w.heap.size w W → SizedL left w bs hs (.returned (.int .i64 r)) W) := fun r W k0 k1 h2 h3 => ⟨r, rfl, k0, k1, by rw [HM.out, HN.out]; exact h2, h3⟩
  rw [HM.out] at hlb C1 HB ⊢
  rw [HN.out] at hlh C1 HB ⊢
  go_enter Tryz.func47, Tryz.ntmps47
  go_wp2_with fail
  refine C1.out.mono ?_
  rintro e w1 ⟨r, rfl, hr0, hr1, hr2, rfl⟩
  by_cases hr : 0 ≤ r
  · have hr2' := hr2 hr
    clear hr2
    go_wp2_with fail
    refine (szBool_any A2 n c2 r _ hlh hr (by omega)).mono ?_
    rintro e w2 ⟨q, rfl, hq0, hq1, hq2, rfl⟩
    by_cases hq : 0 ≤ q
    · have hq2' := hq2 hq
      clear hq2
      go_wp2
      go_ret
      exact FIN.out _ _ (by omega) (by omega) (fun _ => ⟨by omega, by omega⟩) HB.out
    · clear hq2
      go_wp2
      go_ret
      exact FIN.out _ _ (by omega) (by omega) (fun h => by omega) HB.out
  · clear hr2
    go_wp2
    go_ret
    exact FIN.out _ _ (by omega) (by omega) (fun h => by omega) HB.out

def CopiedN (w : World) (p l d s : Int) (bs : List ByteArray) (hs : List Bool) (m n : Nat) (e : Ending) (w' : World) : Prop :=
  ∃ g1 g2, e = .returned (feedV p l d s (some ⟨g1, 0, none⟩) m m (some ⟨g2, 0, none⟩) n n) ∧ OwnFeed w' w.heap.size (some ⟨g1, 0, none⟩) m (some ⟨g2, 0, none⟩) n bs hs ∧ Below w.heap.size w w'
theorem toFeed_n (p l d s : Int) (A1 : Option Addr) (c1 : Nat) (A2 : Option Addr) (c2 : Nat) (bs : List ByteArray) (hs : List Bool) (w : World) (hF : FeedAt w w.heap.size A1 A2 bs hs) (hlb : bs.length ≤ 1048576) (hlh : hs.length ≤ 1048576) {m n : Nat} (hm : bs.length = m) (hn : hs.length = n) :
    Calls Tryz.prog 68 #[feedV p l d s A1 m c1 A2 n c2] w (CopiedN w p l d s bs hs m n) := by
  subst hm; subst hn; exact toFeed_any p l d s A1 c1 A2 c2 bs hs w hF hlb hlh
theorem eqFeed_n (p l d s : Int) (A1 : Option Addr) (c1 : Nat) (A2 : Option Addr) (c2 : Nat) (A3 : Option Addr) (c3 : Nat) (A4 : Option Addr) (c4 : Nat) (bs : List ByteArray) (hs : List Bool) (w : World) (hF : FeedAt w w.heap.size A1 A2 bs hs) (hG : FeedAt w w.heap.size A3 A4 bs hs) {m n : Nat} (hm : bs.length = m) (hn : hs.length = n) :
    Calls Tryz.prog 88 #[feedV p l d s A1 m c1 A2 n c2, feedV p l d s A3 m c3 A4 n c4] w fun e w' => e = .returned (.bool true) ∧ Below w.heap.size w w' := by
  subst hm; subst hn; exact eqFeed_same p l d s A1 c1 A2 c2 A3 c3 A4 c4 bs hs w hF hG

end Go.Proofs.YtkmebilhbjcfpaaGreat

namespace Go.Proofs.YtkmebilhbjcfpaaGreat
open Go.RowKit
set_option linter.unusedVariables false

set_option maxHeartbeats 2000000 in
theorem szInts_any (A : Option Addr) (n cap : Nat) (left : Int) (w : World) (hm : n ≤ maxLen) (h0 : 0 ≤ left) (h1 : left ≤ 1048576) :
    Calls Tryz.prog 103 #[.slice A n cap, .int .i64 left] w (SzS left n w) := by
  unfold maxLen at hm
  have hw : IntKind.i64.wrap (left - (n : Int)) = left - (n : Int) := IntWalk.i64_in _ (by omega)
  by_cases hl : (n : Int) ≤ left
  · have hn : ¬ left - (n : Int) < 0 := by omega
    have hn2 : ¬ left < (n : Int) := by omega
    go_enter Tryz.func103, Tryz.ntmps103
    go_wp2
    go_ret
    exact ⟨left - (n : Int), rfl, by omega, by omega, fun _ => hl, rfl⟩
  · have hn : left - (n : Int) < 0 := by omega
    have hn2 : left < (n : Int) := by omega
    go_enter Tryz.func103, Tryz.ntmps103
    go_wp2
    go_ret
    exact ⟨-1, rfl, by omega, by omega, by omega, rfl⟩

set_option maxHeartbeats 2000000 in
theorem szAsks_any (A : Option Addr) (n cap : Nat) (left : Int) (w : World) (hm : n ≤ maxLen) (h0 : 0 ≤ left) (h1 : left ≤ 1048576) :
    Calls Tryz.prog 48 #[.slice A n cap, .int .i64 left] w (SzS left n w) := by
  unfold maxLen at hm
  have hw : IntKind.i64.wrap (left - (n : Int)) = left - (n : Int) := IntWalk.i64_in _ (by omega)
  by_cases hl : (n : Int) ≤ left
  · have hn : ¬ left - (n : Int) < 0 := by omega
    have hn2 : ¬ left < (n : Int) := by omega
    go_enter Tryz.func48, Tryz.ntmps48
    go_wp2
    go_ret
    exact ⟨left - (n : Int), rfl, by omega, by omega, fun _ => hl, rfl⟩
  · have hn : left - (n : Int) < 0 := by omega
    have hn2 : left < (n : Int) := by omega
    go_enter Tryz.func48, Tryz.ntmps48
    go_wp2
    go_ret
    exact ⟨-1, rfl, by omega, by omega, by omega, rfl⟩

set_option maxHeartbeats 2000000 in
theorem szLinks_any (A : Option Addr) (n cap : Nat) (left : Int) (w : World) (hm : n ≤ maxLen) (h0 : 0 ≤ left) (h1 : left ≤ 1048576) :
    Calls Tryz.prog 17 #[.slice A n cap, .int .i64 left] w (SzS left n w) := by
  unfold maxLen at hm
  have hw : IntKind.i64.wrap (left - (n : Int)) = left - (n : Int) := IntWalk.i64_in _ (by omega)
  by_cases hl : (n : Int) ≤ left
  · have hn : ¬ left - (n : Int) < 0 := by omega
    have hn2 : ¬ left < (n : Int) := by omega
    go_enter Tryz.func17, Tryz.ntmps17
    go_wp2
    go_ret
    exact ⟨left - (n : Int), rfl, by omega, by omega, fun _ => hl, rfl⟩
  · have hn : left - (n : Int) < 0 := by omega
    have hn2 : left < (n : Int) := by omega
    go_enter Tryz.func17, Tryz.ntmps17
    go_wp2
    go_ret
    exact ⟨-1, rfl, by omega, by omega, by omega, rfl⟩

set_option maxHeartbeats 2000000 in
set_option maxRecDepth 100000 in
theorem szPiece_any (fr tq ln ix : Int) (tx : ByteArray) (A : Option Addr) (n c : Nat) (left : Int) (w : World) (ht : tx.size ≤ maxLen) (hm : n ≤ maxLen) (h0 : 0 ≤ left) (h1 : left ≤ 1048576) :
    Calls Tryz.prog 49 #[.agg #[.int .i64 fr, .int .i64 tq, .int .i64 ln, .int .i64 ix, .string tx, .slice A n c], .int .i64 left] w fun e w' => ∃ r : Int, e = .returned (.int .i64 r) ∧ -1 ≤ r ∧ r ≤ left ∧ (0 ≤ r → n ≤ 1048576) ∧ Below w.heap.size w w' := by
  have HMX := Lib.hid hm
  unfold maxLen at ht
  have HB : Hid (Below w.heap.size w (w.alloc (.cells #[.int .i64 fr, .int .i64 tq, .int .i64 ln, .int .i64 ix, .string tx, .slice A n c] 89))) := (Below.refl _ w).alloc (Nat.le_refl _) _
  have hw : IntKind.i64.wrap (left - (tx.size : Int)) = left - (tx.size : Int) := IntWalk.i64_in _ (by omega)
  by_cases hl : (tx.size : Int) ≤ left
  · have hn : ¬ left - (tx.size : Int) < 0 := by omega
    have hn2 : ¬ left < (tx.size : Int) := by omega
    have C := Lib.hid (fun U => szInts_any A n c (left - (tx.size : Int)) U HMX.out (by omega) (by omega))
    go_enter Tryz.func49, Tryz.ntmps49
    go_wp2_with fail
    refine (C.out _).mono ?_
    rintro e w1 ⟨q, rfl, hq0, hq1, hq2, rfl⟩
    by_cases hq : 0 ≤ q
    · have hq2' := hq2 hq
      have hqn : ¬ q < 0 := by omega
      clear hq2
      go_wp2
      go_ret
      exact ⟨q, rfl, by omega, by omega, fun _ => by omega, HB.out⟩
    · have hqn : q < 0 := by omega
      clear hq2
      go_wp2
      go_ret
      exact ⟨-1, rfl, by omega, by omega, fun h => by omega, HB.out⟩
  · have hn : left - (tx.size : Int) < 0 := by omega
    have hn2 : left < (tx.size : Int) := by omega
    go_enter Tryz.func49, Tryz.ntmps49
    go_wp2
    go_ret
    exact ⟨-1, rfl, by omega, by omega, fun h => by omega, HB.out⟩

set_option maxHeartbeats 4000000 in
set_option maxRecDepth 100000 in
theorem szFeeds_any (A : Option Addr) (cap : Nat) (hs : List FH) (left : Int) (w : World) (h : RowAt FK w w.heap.size A hs) (hf : ∀ k, k < hs.length → FhAt w w.heap.size (fhth hs k)) (hm : hs.length ≤ maxLen) (h0 : 0 ≤ left) (h1 : left ≤ 1048576) {n : Nat} (hn : hs.length = n) :
    Calls Tryz.prog 16 #[.slice A n cap, .int .i64 left] w fun e w' => ∃ r : Int, e = .returned (.int .i64 r) ∧ -1 ≤ r ∧ r ≤ left ∧ (0 ≤ r → n ≤ 1048576 ∧ ∀ k, k < n → (fhth hs k).f.bs.length ≤ 1048576 ∧ (fhth hs k).f.hs.length ≤ 1048576) ∧ Below w.heap.size w w' := by
  unfold maxLen at hm
  rw [hn] at hm
  have HA := Lib.hid h
  have HN := Lib.hid hn
  have HF := Lib.hid hf
  clear hf
  clear h hn
  have hw : IntKind.i64.wrap (left - (n : Int)) = left - (n : Int) := IntWalk.i64_in _ (by omega)
  by_cases hl : (n : Int) ≤ left
  · have hn1 : ¬ left - (n : Int) < 0 := by omega
    have hn2 : ¬ left < (n : Int) := by omega
    go_enter Tryz.func16, Tryz.ntmps16
    go_wp2
    go_loopw [1, 5] (fun x i wr => ∃ (k : Nat) (z : Int), k ≤ n ∧ 0 ≤ z ∧ z ≤ left ∧ x = .int .i64 z ∧ i = .int .i64 (k : Int) ∧ Hid (Below w.heap.size w wr) ∧ Hid (∀ j, j < k → (fhth hs j).f.bs.length ≤ 1048576 ∧ (fhth hs j).f.hs.length ≤ 1048576)) (fun _ i _ => n - (intOf i).toNat)
    case atStart => exact ⟨0, left - (n : Int), Nat.zero_le _, by omega, by omega, rfl, rfl, Below.refl _ _, fun j hj => absurd hj (Nat.not_lt_zero _)⟩
    case round =>
      obtain ⟨k, z, hk, hz0, hz1, rfl, rfl, HB, HC⟩ := hrel
      by_cases hkn : k < n
      · have hki : (k : Int) < (n : Int) := by omega
        have hkz : k < hs.length := by rw [HN.out]; exact hkn
        have hj := HA.out.belowS HB.out
        obtain ⟨b, o, rfl⟩ := hj.some_ (by omega)
        obtain ⟨c0, c1, c2, c3, c4, c5⟩ := feed_cells6 hj k hkz
        have HFk := Lib.hid (HF.out k hkz)
        have HSM : Hid ((fhth hs k).f.bs.length ≤ 1048576 ∧ (fhth hs k).f.hs.length ≤ 1048576 → (fhth hs k).f.bs.length ≤ 1048576 ∧ (fhth hs k).f.hs.length ≤ 1048576) := fun x => x
        obtain ⟨X, HX⟩ : ∃ x, Hid (fhth hs k = x) := ⟨_, rfl⟩
        rw [HX.out] at c0 c1 c2 c3 c4 c5 HFk
        have HSM' : Hid (X.f.bs.length ≤ 1048576 ∧ X.f.hs.length ≤ 1048576 → (fhth hs k).f.bs.length ≤ 1048576 ∧ (fhth hs k).f.hs.length ≤ 1048576) := fun x => by rw [HX.out]; exact x
        clear HSM
        have HSM := HSM'
        clear HSM'
        obtain ⟨⟨xp, xl, xd, xs, xbs, xhs⟩, xa1, xc1, xa2, xc2⟩ := X
        dsimp only at c0 c1 c2 c3 c4 c5 HSM
        have CZ : Hid (Calls Tryz.prog 47 #[feedV xp xl xd xs xa1 xbs.length xc1 xa2 xhs.length xc2, .int .i64 z] wr (SizedL z wr xbs xhs)) := szFeed_left z hz0 (by omega) xp xl xd xs xa1 xc1 xa2 xc2 xbs xhs wr (HFk.out.feed.belowS HB.out)
        unfold SizedL at CZ
        obtain ⟨y1, HY1⟩ : ∃ x, Hid (xbs.length = x) := ⟨_, rfl⟩
        obtain ⟨y2, HY2⟩ : ∃ x, Hid (xhs.length = x) := ⟨_, rfl⟩
        rw [HY1.out] at c4 CZ HSM
        rw [HY2.out] at c5 CZ HSM
        clear hkz hj
        go_wp2_with fail
        refine CZ.out.mono ?_
        rintro e w1 ⟨q, rfl, hq0, hq1, hq2, hb1⟩
        have HB1 : Hid (Below w.heap.size w w1) := HB.out.trans (hb1.mono HB.out.size)
        clear hb1
        by_cases hq : 0 ≤ q
        · have hqn : ¬ q < 0 := by omega
          have HS : Hid (∀ j, j < k + 1 → (fhth hs j).f.bs.length ≤ 1048576 ∧ (fhth hs j).f.hs.length ≤ 1048576) := fun j hj => by
            rcases Nat.lt_or_ge j k with e | e
            · exact HC.out j e
            · have : j = k := by omega
              subst this
              exact HSM.out (hq2 hq)
          clear hq2
          go_wp2
          go_roundw
          case rel => exact ⟨k + 1, q, by omega, by omega, by omega, rfl, by go_num, HB1, HS⟩
          case measure => simp [intOf]; omega
        · have hqn : q < 0 := by omega
          clear hq2
          go_wp2
          go_ret
          exact ⟨-1, rfl, by omega, by omega, fun h => by omega, HB1.out⟩
      · have hke : k = n := by omega
        subst hke
        go_wp2
        go_ret
        exact ⟨z, rfl, by omega, by omega, fun _ => ⟨by omega, HC.out⟩, HB.out⟩
  · have hn1 : left - (n : Int) < 0 := by omega
    have hn2 : left < (n : Int) := by omega
    go_enter Tryz.func16, Tryz.ntmps16
    go_wp2
    go_ret
    exact ⟨-1, rfl, by omega, by omega, fun h => by omega, Below.refl _ _⟩

set_option maxHeartbeats 4000000 in
set_option maxRecDepth 100000 in
theorem szAskss_any (A : Option Addr) (cap : Nat) (hs : List AH) (left : Int) (w : World) (h : RowAt HK2 w w.heap.size A hs) (hf : ∀ k, k < hs.length → (ahth hs k).xs.length ≤ maxLen) (hm : hs.length ≤ maxLen) (h0 : 0 ≤ left) (h1 : left ≤ 1048576) {n : Nat} (hn : hs.length = n) :
    Calls Tryz.prog 18 #[.slice A n cap, .int .i64 left] w fun e w' => ∃ r : Int, e = .returned (.int .i64 r) ∧ -1 ≤ r ∧ r ≤ left ∧ (0 ≤ r → n ≤ 1048576 ∧ ∀ k, k < n → (ahth hs k).xs.length ≤ 1048576) ∧ Below w.heap.size w w' := by
  unfold maxLen at hm
  rw [hn] at hm
  have HA := Lib.hid h
  have HN := Lib.hid hn
  have HF := Lib.hid hf
  clear hf
  clear h hn
  have hw : IntKind.i64.wrap (left - (n : Int)) = left - (n : Int) := IntWalk.i64_in _ (by omega)
  by_cases hl : (n : Int) ≤ left
  · have hn1 : ¬ left - (n : Int) < 0 := by omega
    have hn2 : ¬ left < (n : Int) := by omega
    go_enter Tryz.func18, Tryz.ntmps18
    go_wp2
    go_loopw [1, 5] (fun x i wr => ∃ (k : Nat) (z : Int), k ≤ n ∧ 0 ≤ z ∧ z ≤ left ∧ x = .int .i64 z ∧ i = .int .i64 (k : Int) ∧ Hid (Below w.heap.size w wr) ∧ Hid (∀ j, j < k → (ahth hs j).xs.length ≤ 1048576)) (fun _ i _ => n - (intOf i).toNat)
    case atStart => exact ⟨0, left - (n : Int), Nat.zero_le _, by omega, by omega, rfl, rfl, Below.refl _ _, fun j hj => absurd hj (Nat.not_lt_zero _)⟩
    case round =>
      obtain ⟨k, z, hk, hz0, hz1, rfl, rfl, HB, HC⟩ := hrel
      by_cases hkn : k < n
      · have hki : (k : Int) < (n : Int) := by omega
        have hkz : k < hs.length := by rw [HN.out]; exact hkn
        have hj := HA.out.belowS HB.out
        obtain ⟨b, o, rfl⟩ := hj.some_ (by omega)
        have c0 := asks_cell1 hj k hkz
        have HFk := Lib.hid (HF.out k hkz)
        obtain ⟨X, HX⟩ : ∃ x, Hid (ahth hs k = x) := ⟨_, rfl⟩
        rw [HX.out] at c0 HFk
        have HSM : Hid (X.xs.length ≤ 1048576 → (ahth hs k).xs.length ≤ 1048576) := fun x => by rw [HX.out]; exact x
        obtain ⟨xa1, xc1, xxs⟩ := X
        dsimp only at c0 HSM HFk
        obtain ⟨y1, HY1⟩ : ∃ x, Hid (xxs.length = x) := ⟨_, rfl⟩
        have CZ : Hid (Calls Tryz.prog 48 #[.slice xa1 y1 xc1, .int .i64 z] wr fun e w' => ∃ r : Int, e = .returned (.int .i64 r) ∧ -1 ≤ r ∧ r ≤ z ∧ (0 ≤ r → y1 ≤ 1048576) ∧ Below wr.heap.size wr w') := by
          refine (szAsks_any xa1 y1 xc1 z wr (by rw [← HY1.out]; exact HFk.out) hz0 (by omega)).mono ?_
          rintro e w1 ⟨q, rfl, hq0, hq1, hq2, rfl⟩
          exact ⟨q, rfl, hq0, hq1, fun x => by have := hq2 x; omega, Below.refl _ _⟩
        rw [HY1.out] at c0 HSM
        clear hkz hj
        go_wp2_with fail
        refine CZ.out.mono ?_
        rintro e w1 ⟨q, rfl, hq0, hq1, hq2, hb1⟩
        have HB1 : Hid (Below w.heap.size w w1) := HB.out.trans (hb1.mono HB.out.size)
        clear hb1
        by_cases hq : 0 ≤ q
        · have hqn : ¬ q < 0 := by omega
          have HS : Hid (∀ j, j < k + 1 → (ahth hs j).xs.length ≤ 1048576) := fun j hj => by
            rcases Nat.lt_or_ge j k with e | e
            · exact HC.out j e
            · have : j = k := by omega
              subst this
              exact HSM.out (hq2 hq)
          clear hq2
          go_wp2
          go_roundw
          case rel => exact ⟨k + 1, q, by omega, by omega, by omega, rfl, by go_num, HB1, HS⟩
          case measure => simp [intOf]; omega
        · have hqn : q < 0 := by omega
          clear hq2
          go_wp2
          go_ret
          exact ⟨-1, rfl, by omega, by omega, fun h => by omega, HB1.out⟩
      · have hke : k = n := by omega
        subst hke
        go_wp2
        go_ret
        exact ⟨z, rfl, by omega, by omega, fun _ => ⟨by omega, HC.out⟩, HB.out⟩
  · have hn1 : left - (n : Int) < 0 := by omega
    have hn2 : left < (n : Int) := by omega
    go_enter Tryz.func18, Tryz.ntmps18
    go_wp2
    go_ret
    exact ⟨-1, rfl, by omega, by omega, fun h => by omega, Below.refl _ _⟩

set_option maxHeartbeats 4000000 in
set_option maxRecDepth 100000 in
theorem szPieces_any (A : Option Addr) (cap : Nat) (hs : List QH) (left : Int) (w : World) (h : RowAt QK w w.heap.size A hs) (hf : ∀ k, k < hs.length → QhAt w w.heap.size (qhth hs k)) (hm : hs.length ≤ maxLen) (h0 : 0 ≤ left) (h1 : left ≤ 1048576) {n : Nat} (hn : hs.length = n) :
    Calls Tryz.prog 19 #[.slice A n cap, .int .i64 left] w fun e w' => ∃ r : Int, e = .returned (.int .i64 r) ∧ -1 ≤ r ∧ r ≤ left ∧ (0 ≤ r → n ≤ 1048576 ∧ ∀ k, k < n → (qhth hs k).p.pf.length ≤ 1048576) ∧ Below w.heap.size w w' := by
  unfold maxLen at hm
  rw [hn] at hm
  have HA := Lib.hid h
  have HN := Lib.hid hn
  have HF := Lib.hid hf
  clear hf
  clear h hn
  have hw : IntKind.i64.wrap (left - (n : Int)) = left - (n : Int) := IntWalk.i64_in _ (by omega)
  by_cases hl : (n : Int) ≤ left
  · have hn1 : ¬ left - (n : Int) < 0 := by omega
    have hn2 : ¬ left < (n : Int) := by omega
    go_enter Tryz.func19, Tryz.ntmps19
    go_wp2
    go_loopw [1, 5] (fun x i wr => ∃ (k : Nat) (z : Int), k ≤ n ∧ 0 ≤ z ∧ z ≤ left ∧ x = .int .i64 z ∧ i = .int .i64 (k : Int) ∧ Hid (Below w.heap.size w wr) ∧ Hid (∀ j, j < k → (qhth hs j).p.pf.length ≤ 1048576)) (fun _ i _ => n - (intOf i).toNat)
    case atStart => exact ⟨0, left - (n : Int), Nat.zero_le _, by omega, by omega, rfl, rfl, Below.refl _ _, fun j hj => absurd hj (Nat.not_lt_zero _)⟩
    case round =>
      obtain ⟨k, z, hk, hz0, hz1, rfl, rfl, HB, HC⟩ := hrel
      by_cases hkn : k < n
      · have hki : (k : Int) < (n : Int) := by omega
        have hkz : k < hs.length := by rw [HN.out]; exact hkn
        have hj := HA.out.belowS HB.out
        obtain ⟨b, o, rfl⟩ := hj.some_ (by omega)
        obtain ⟨c0, c1, c2, c3, c4, c5⟩ := piece_cells6 hj k hkz
        have HFk := Lib.hid (HF.out k hkz)
        obtain ⟨X, HX⟩ : ∃ x, Hid (qhth hs k = x) := ⟨_, rfl⟩
        rw [HX.out] at c0 c1 c2 c3 c4 c5 HFk
        have HSM : Hid (X.p.pf.length ≤ 1048576 → (qhth hs k).p.pf.length ≤ 1048576) := fun x => by rw [HX.out]; exact x
        obtain ⟨⟨xf, xt, xl, xi, xtx, xpf⟩, xa1, xc1⟩ := X
        dsimp only at c0 c1 c2 c3 c4 c5 HSM
        obtain ⟨y1, HY1⟩ : ∃ x, Hid (xpf.length = x) := ⟨_, rfl⟩
        have CZ : Hid (Calls Tryz.prog 49 #[.agg #[.int .i64 xf, .int .i64 xt, .int .i64 xl, .int .i64 xi, .string xtx, .slice xa1 y1 xc1], .int .i64 z] wr fun e w' => ∃ r : Int, e = .returned (.int .i64 r) ∧ -1 ≤ r ∧ r ≤ z ∧ (0 ≤ r → y1 ≤ 1048576) ∧ Below wr.heap.size wr w') :=
          szPiece_any xf xt xl xi xtx xa1 y1 xc1 z wr HFk.out.tx (by rw [← HY1.out]; exact Nat.le_trans HFk.out.le HFk.out.most) hz0 (by omega)
        rw [HY1.out] at c5 HSM
        clear hkz hj
        go_wp2_with fail
        refine CZ.out.mono ?_
        rintro e w1 ⟨q, rfl, hq0, hq1, hq2, hb1⟩
        have HB1 : Hid (Below w.heap.size w w1) := HB.out.trans (hb1.mono HB.out.size)
        clear hb1
        by_cases hq : 0 ≤ q
        · have hqn : ¬ q < 0 := by omega
          have HS : Hid (∀ j, j < k + 1 → (qhth hs j).p.pf.length ≤ 1048576) := fun j hj => by
            rcases Nat.lt_or_ge j k with e | e
            · exact HC.out j e
            · have : j = k := by omega
              subst this
              exact HSM.out (hq2 hq)
          clear hq2
          go_wp2
          go_roundw
          case rel => exact ⟨k + 1, q, by omega, by omega, by omega, rfl, by go_num, HB1, HS⟩
          case measure => simp [intOf]; omega
        · have hqn : q < 0 := by omega
          clear hq2
          go_wp2
          go_ret
          exact ⟨-1, rfl, by omega, by omega, fun h => by omega, HB1.out⟩
      · have hke : k = n := by omega
        subst hke
        go_wp2
        go_ret
        exact ⟨z, rfl, by omega, by omega, fun _ => ⟨by omega, HC.out⟩, HB.out⟩
  · have hn1 : left - (n : Int) < 0 := by omega
    have hn2 : left < (n : Int) := by omega
    go_enter Tryz.func19, Tryz.ntmps19
    go_wp2
    go_ret
    exact ⟨-1, rfl, by omega, by omega, fun h => by omega, Below.refl _ _⟩

/-- All lists of a run are short. -/
structure SmallRun (r : WR) (ls : List LinkD) : Prop where
  f : r.fh.length ≤ 1048576 ∧ ∀ k, k < r.fh.length → (fhth r.fh k).f.bs.length ≤ 1048576 ∧ (fhth r.fh k).f.hs.length ≤ 1048576
  l : ls.length ≤ 1048576
  a : r.ah.length ≤ 1048576 ∧ ∀ k, k < r.ah.length → (ahth r.ah k).xs.length ≤ 1048576
  q : r.qh.length ≤ 1048576 ∧ ∀ k, k < r.qh.length → (qhth r.qh k).p.pf.length ≤ 1048576

set_option maxHeartbeats 4000000 in
set_option maxRecDepth 100000 in
theorem szRun_any (sec bad : Int) (r : WR) (ls : List LinkD) (w : World) (h : RunAt w w.heap.size r ls) {n1 n2 n3 n4 : Nat} (hn1 : r.fh.length = n1) (hn2 : ls.length = n2) (hn3 : r.ah.length = n3) (hn4 : r.qh.length = n4) :
    Calls Tryz.prog 5 #[.agg #[.int .i64 sec, .int .i64 bad, .slice r.A1 n1 r.c1, .slice r.A2 n2 r.c2, .slice r.A3 n3 r.c3, .slice r.A4 n4 r.c4], .int .i64 1048576] w fun e w' => ∃ z : Int, e = .returned (.int .i64 z) ∧ (0 ≤ z → SmallRun r ls) ∧ Below w.heap.size w w' := by
  have C1 : Hid (∀ U, Below w.heap.size w U → _) := fun U hU => by
    have a := h.belowS hU
    exact szFeeds_any r.A1 r.c1 r.fh 1048576 U a.r1 (fun k hk => a.feed k hk) a.m1 (by omega) (by omega) hn1
  have C3 : Hid (∀ z : Int, 0 ≤ z → z ≤ 1048576 → ∀ U, Below w.heap.size w U → _) := fun z hz0 hz1 U hU => by
    have a := h.belowS hU
    exact szAskss_any r.A3 r.c3 r.ah z U a.r3 (fun k hk => Nat.le_trans (a.asks k hk).le (a.asks k hk).most) a.m3 hz0 hz1 hn3
  have C4 : Hid (∀ z : Int, 0 ≤ z → z ≤ 1048576 → ∀ U, Below w.heap.size w U → _) := fun z hz0 hz1 U hU => by
    have a := h.belowS hU
    exact szPieces_any r.A4 r.c4 r.qh z U a.r4 (fun k hk => a.piece k hk) a.m4 hz0 hz1 hn4
  have HM2 : Hid (n2 ≤ maxLen) := by show _ ≤ _; rw [← hn2]; exact h.m2
  have HMK : Hid ((n1 ≤ 1048576 ∧ ∀ k, k < n1 → (fhth r.fh k).f.bs.length ≤ 1048576 ∧ (fhth r.fh k).f.hs.length ≤ 1048576) → n2 ≤ 1048576 → (n3 ≤ 1048576 ∧ ∀ k, k < n3 → (ahth r.ah k).xs.length ≤ 1048576) → (n4 ≤ 1048576 ∧ ∀ k, k < n4 → (qhth r.qh k).p.pf.length ≤ 1048576) → SmallRun r ls) := fun a b c d => ⟨by rw [hn1]; exact a, by rw [hn2]; exact b, by rw [hn3]; exact c, by rw [hn4]; exact d⟩
  clear h hn1 hn2 hn3 hn4
  obtain ⟨V0, HV0⟩ : ∃ W, Hid (w.alloc (.cells #[.int .i64 sec, .int .i64 bad, .slice r.A1 n1 r.c1, .slice r.A2 n2 r.c2, .slice r.A3 n3 r.c3, .slice r.A4 n4 r.c4] 27) = W) := ⟨_, rfl⟩
  have KA : Hid (Blk V0 w.heap.size 27 #[.int .i64 sec, .int .i64 bad, .slice r.A1 n1 r.c1, .slice r.A2 n2 r.c2, .slice r.A3 n3 r.c3, .slice r.A4 n4 r.c4]) := by rw [← HV0.out]; exact Blk.new w _ _
  have HB : Hid (Below w.heap.size w V0) := by rw [← HV0.out]; exact (Below.refl _ w).alloc (Nat.le_refl _) _
  obtain ⟨a0, a1, a2, a3, a4, a5⟩ := run_cells KA.out
  go_enter Tryz.func5, Tryz.ntmps5
  go_upto_region 1 with fail
  rw [HV0.out]
  go_wp2_with fail
  refine (C1.out V0 HB.out).mono ?_
  rintro e w1 ⟨z1, rfl, hz0, hz1, hzs, hb1⟩
  have H1 := Lib.hid hzs
  have HB1 : Hid (Below w.heap.size w w1) := HB.out.trans (hb1.mono HB.out.size)
  have KA1 := Lib.hid (KA.out.below hb1 KA.out.lt)
  clear hb1 hzs a0 a1 a2 a3 a4 a5
  obtain ⟨a0, a1, a2, a3, a4, a5⟩ := run_cells KA1.out
  by_cases hq1 : 0 ≤ z1
  · have hn1 : ¬ z1 < 0 := by omega
    go_wp2_with fail
    refine (szLinks_any r.A2 n2 r.c2 z1 w1 HM2.out hq1 hz1).mono ?_
    rintro e w2 ⟨z2, rfl, hy0, hy1, hys, hw2⟩
    rw [← hw2]
    clear hw2
    have H2 := Lib.hid hys
    clear hys
    by_cases hq2 : 0 ≤ z2
    · have hn2 : ¬ z2 < 0 := by omega
      go_wp2_with fail
      refine (C3.out z2 hq2 (by omega) w1 HB1.out).mono ?_
      rintro e w3 ⟨z3, rfl, hx0, hx1, hxs, hb3⟩
      have H3 := Lib.hid hxs
      have HB3 : Hid (Below w.heap.size w w3) := HB1.out.trans (hb3.mono HB1.out.size)
      have KA3 := Lib.hid (KA1.out.below hb3 KA1.out.lt)
      clear hb3 hxs a0 a1 a2 a3 a4 a5
      obtain ⟨a0, a1, a2, a3, a4, a5⟩ := run_cells KA3.out
      by_cases hq3 : 0 ≤ z3
      · have hn3 : ¬ z3 < 0 := by omega
        go_wp2_with fail
        refine (C4.out z3 hq3 (by omega) w3 HB3.out).mono ?_
        rintro e w4 ⟨z4, rfl, hu0, hu1, hus, hb4⟩
        have H4 := Lib.hid hus
        have HB4 : Hid (Below w.heap.size w w4) := HB3.out.trans (hb4.mono HB3.out.size)
        clear hb4 hus
        by_cases hq4 : 0 ≤ z4
        · have hn4 : ¬ z4 < 0 := by omega
          go_wp2
          go_ret
          exact ⟨z4, rfl, fun _ => HMK.out (H1.out hq1) (by have := H2.out hq2; omega) (H3.out hq3) (H4.out hq4), HB4.out⟩
        · have hn4 : z4 < 0 := by omega
          go_wp2
          go_ret
          exact ⟨-1, rfl, fun h => by omega, HB4.out⟩
      · have hn3 : z3 < 0 := by omega
        go_wp2
        go_ret
        exact ⟨-1, rfl, fun h => by omega, HB3.out⟩
    · have hn2 : z2 < 0 := by omega
      go_wp2
      go_ret
      exact ⟨-1, rfl, fun h => by omega, HB1.out⟩
  · have hn1 : z1 < 0 := by omega
    go_wp2
    go_ret
    exact ⟨-1, rfl, fun h => by omega, HB1.out⟩
end Go.Proofs.YtkmebilhbjcfpaaGreat

namespace Go.Proofs.YtkmebilhbjcfpaaGreat
open Go.RowKit
set_option linter.unusedVariables false

theorem ownsRow_set {w : World} {base : Nat} {e : TypeId} {size n : Nat} {v : Value} {xs : List Value} (h : w.ownsRow base e size v n xs) {p : Addr} (hp : p.block < base) (u : Value) : (w.setCell p u).ownsRow base e size v n xs := by
  refine ⟨h.1, ?_⟩
  rcases h.2 with h0 | ⟨g, c, cur, hv, hg, hgb, hr⟩
  · exact .inl h0
  · exact .inr ⟨g, c, cur, hv, hg, (Below.heap_setCell w p u g (by omega)).trans hgb, hr⟩
theorem owns_nil {w : World} {base : Nat} {e : TypeId} {size n m c : Nat} {A : Option Addr} {xs : List Value} (h : w.ownsRow base e size (.slice A n c) m xs) : A = none → c = 0 := by
  rintro rfl
  rcases h.2 with ⟨hv, _⟩ | ⟨g, c', cur, hv, _⟩
  · injection hv
  · injection hv with hv; cases hv
def OwnF (w : World) (b : Nat) (y : FH) : Prop := OwnFeed w b y.a1 y.c1 y.a2 y.c2 y.f.bs y.f.hs
def OwnA (w : World) (b : Nat) (y : AH) : Prop := OwnRow AK w b y.a y.c y.xs
def OwnQ (w : World) (b : Nat) (y : QH) : Prop := OwnInts w b y.a y.c y.p.pf ∧ y.p.tx.size ≤ maxLen
def OwnL (w : World) (b : Nat) (y : LinkD) : Prop := True
section
variable {w w' : World} {b b' : Nat}
theorem OwnF.below {y : FH} (h : OwnF w b y) (hb : Below w.heap.size w w') : OwnF w' b y := OwnFeed.below h hb
theorem OwnA.below {y : AH} (h : OwnA w b y) (hb : Below w.heap.size w w') : OwnA w' b y := OwnRow.below h hb
theorem OwnQ.below {y : QH} (h : OwnQ w b y) (hb : Below w.heap.size w w') : OwnQ w' b y := ⟨h.1.below hb, h.2⟩
theorem OwnL.below {y : LinkD} (h : OwnL w b y) (hb : Below w.heap.size w w') : OwnL w' b y := trivial
theorem OwnF.base {y : FH} (h : OwnF w b y) (hb : b' ≤ b) : OwnF w b' y := OwnFeed.base_le h hb
theorem OwnA.base {y : AH} (h : OwnA w b y) (hb : b' ≤ b) : OwnA w b' y := OwnRow.base_le h hb
theorem OwnQ.base {y : QH} (h : OwnQ w b y) (hb : b' ≤ b) : OwnQ w b' y := ⟨h.1.base_le hb, h.2⟩
theorem OwnL.base {y : LinkD} (h : OwnL w b y) (hb : b' ≤ b) : OwnL w b' y := trivial
theorem OwnF.set {y : FH} (h : OwnF w b y) {p : Addr} (hp : p.block < b) (u : Value) : OwnF (w.setCell p u) b y := ⟨ownsRow_set h.strs hp u, ownsRow_set h.bits hp u, h.fit⟩
theorem OwnA.set {y : AH} (h : OwnA w b y) {p : Addr} (hp : p.block < b) (u : Value) : OwnA (w.setCell p u) b y := ownsRow_set h hp u
theorem OwnQ.set {y : QH} (h : OwnQ w b y) {p : Addr} (hp : p.block < b) (u : Value) : OwnQ (w.setCell p u) b y := ⟨ownsRow_set h.1 hp u, h.2⟩
theorem OwnL.set {y : LinkD} (h : OwnL w b y) {p : Addr} (hp : p.block < b) (u : Value) : OwnL (w.setCell p u) b y := trivial
theorem OwnRow.set_ {α : Type} {K : Kind α} {A : Option Addr} {c : Nat} {xs : List α} (h : OwnRow K w b A c xs) {p : Addr} (hp : p.block < b) (u : Value) : OwnRow K (w.setCell p u) b A c xs := ownsRow_set h hp u
theorem OwnF.at_ {y : FH} (h : OwnF w b y) : FhAt w w.heap.size y := ⟨OwnFeed.at_ h, owns_nil h.strs, owns_nil h.bits, h.strs.le, h.bits.le⟩
theorem OwnA.at_ {y : AH} (h : OwnA w b y) : AsksAt w w.heap.size y.a y.c y.xs := ⟨OwnRow.at_ h, (OwnRow.le h).1, (OwnRow.le h).2, OwnRow.nil_cap h⟩
theorem OwnQ.at_ {y : QH} (h : OwnQ w b y) : QhAt w w.heap.size y := ⟨h.1.ints, h.1.le.1, h.1.le.2, owns_nil h.1, h.2⟩
end
/-- A run's rows, and what they name, are the run's own. -/
structure OwnRun (w : World) (base : Nat) (r : WR) (ls : List LinkD) : Prop where
  o1 : OwnRow FK w base r.A1 r.c1 r.fh
  o2 : OwnRow NK w base r.A2 r.c2 ls
  o3 : OwnRow HK2 w base r.A3 r.c3 r.ah
  o4 : OwnRow QK w base r.A4 r.c4 r.qh
  f1 : ∀ h ∈ r.fh, OwnF w base h
  f3 : ∀ h ∈ r.ah, OwnA w base h
  f4 : ∀ h ∈ r.qh, OwnQ w base h
theorem OwnRun.at_ {w : World} {base : Nat} {r : WR} {ls : List LinkD} (h : OwnRun w base r ls) : RunAt w w.heap.size r ls :=
  ⟨h.o1.at_, h.o2.at_, h.o3.at_, h.o4.at_, fun x hx => (h.f1 x hx).at_, fun x hx => (h.f3 x hx).at_, fun x hx => (h.f4 x hx).at_, Nat.le_trans h.o1.le.1 h.o1.le.2, Nat.le_trans h.o2.le.1 h.o2.le.2, Nat.le_trans h.o3.le.1 h.o3.le.2, Nat.le_trans h.o4.le.1 h.o4.le.2, h.o1.nil_cap, h.o2.nil_cap, h.o3.nil_cap, h.o4.nil_cap, h.o1.le.1, h.o2.le.1, h.o3.le.1, h.o4.le.1, h.o1.le.2, h.o2.le.2, h.o3.le.2, h.o4.le.2⟩
theorem OwnRun.below {w w' : World} {base : Nat} {r : WR} {ls : List LinkD} (h : OwnRun w base r ls) (hb : Below w.heap.size w w') : OwnRun w' base r ls :=
  ⟨h.o1.below hb, h.o2.below hb, h.o3.below hb, h.o4.below hb, fun x hx => (h.f1 x hx).below hb, fun x hx => (h.f3 x hx).below hb, fun x hx => (h.f4 x hx).below hb⟩
end Go.Proofs.YtkmebilhbjcfpaaGreat

namespace Go.Proofs.YtkmebilhbjcfpaaGreat
open Go.RowKit
set_option linter.unusedVariables false

theorem mid_get {α : Type} (ys : List α) (z : α) (k n : Nat) (hl : ys.length = k) (h : k < n) : (ys ++ List.replicate (n - k) z)[k]? = some z := by
  rw [List.getElem?_append_right (by omega), hl, Nat.sub_self, List.getElem?_replicate, if_pos (by omega)]
theorem mid_set {α : Type} (ys : List α) (z y : α) (k n : Nat) (hl : ys.length = k) (h : k < n) : (ys ++ List.replicate (n - k) z).set k y = (ys ++ [y]) ++ List.replicate (n - (k + 1)) z := by
  rw [List.set_append_right _ _ (by omega), hl, Nat.sub_self, show n - k = (n - (k + 1)) + 1 by omega, List.replicate_succ, List.append_assoc]
  rfl
theorem mid_len {α : Type} (ys : List α) (z : α) (k n : Nat) (hl : ys.length = k) (h : k ≤ n) : (ys ++ List.replicate (n - k) z).length = n := by
  rw [List.length_append, List.length_replicate, hl]; omega
theorem take_next {α β : Type} (f : α → β) (ys hs : List α) (k : Nat) (y x : α) (hx : hs[k]? = some x) (hy : f y = f x) (h : ys.map f = (hs.map f).take k) : (ys ++ [y]).map f = (hs.map f).take (k + 1) := by
  have hk : k < (hs.map f).length := by rw [List.length_map]; exact (List.getElem?_eq_some_iff.1 hx).1
  rw [List.map_append, h, List.take_succ_eq_append_getElem hk]
  congr 1
  have : (hs.map f)[k]? = some (f x) := by rw [List.getElem?_map, hx]; rfl
  rw [List.getElem?_eq_getElem hk] at this
  injection this with this
  show [f y] = _
  rw [hy, this]

theorem feed_put {w : World} {base b cap : Nat} {xs : List FH} (h : OwnRow FK w base (some ⟨b, 0, none⟩) cap xs) (k : Nat) (x y : FH) (hx : xs[k]? = some x) : OwnRow FK ((((((w.setCell ⟨b, k * 6, none⟩ (.int .i64 y.f.p)).setCell ⟨b, k * 6 + 1, none⟩ (.int .i64 y.f.l)).setCell ⟨b, k * 6 + 2, none⟩ (.int .i64 y.f.d)).setCell ⟨b, k * 6 + 3, none⟩ (.int .i64 y.f.s)).setCell ⟨b, k * 6 + 4, none⟩ (.slice y.a1 y.f.bs.length y.c1)).setCell ⟨b, k * 6 + 5, none⟩ (.slice y.a2 y.f.hs.length y.c2)) base (some ⟨b, 0, none⟩) cap (xs.set k y) := by
  have hk : k < xs.length := (List.getElem?_eq_some_iff.1 hx).1
  have s1 := h.stored k _ (⟨⟨y.f.p, x.f.l, x.f.d, x.f.s, x.f.bs, x.f.hs⟩, x.a1, x.c1, x.a2, x.c2⟩ : FH) hx 0 (by decide) (.int .i64 y.f.p) rfl
  have hx1 : (xs.set k (⟨⟨y.f.p, x.f.l, x.f.d, x.f.s, x.f.bs, x.f.hs⟩, x.a1, x.c1, x.a2, x.c2⟩ : FH))[k]? = some (⟨⟨y.f.p, x.f.l, x.f.d, x.f.s, x.f.bs, x.f.hs⟩, x.a1, x.c1, x.a2, x.c2⟩ : FH) := List.getElem?_set_self hk
  have s2 := s1.1.stored k _ (⟨⟨y.f.p, y.f.l, x.f.d, x.f.s, x.f.bs, x.f.hs⟩, x.a1, x.c1, x.a2, x.c2⟩ : FH) hx1 1 (by decide) (.int .i64 y.f.l) rfl
  rw [List.set_set] at s2
  have hx2 : (xs.set k (⟨⟨y.f.p, y.f.l, x.f.d, x.f.s, x.f.bs, x.f.hs⟩, x.a1, x.c1, x.a2, x.c2⟩ : FH))[k]? = some (⟨⟨y.f.p, y.f.l, x.f.d, x.f.s, x.f.bs, x.f.hs⟩, x.a1, x.c1, x.a2, x.c2⟩ : FH) := List.getElem?_set_self hk
  have s3 := s2.1.stored k _ (⟨⟨y.f.p, y.f.l, y.f.d, x.f.s, x.f.bs, x.f.hs⟩, x.a1, x.c1, x.a2, x.c2⟩ : FH) hx2 2 (by decide) (.int .i64 y.f.d) rfl
  rw [List.set_set] at s3
  have hx3 : (xs.set k (⟨⟨y.f.p, y.f.l, y.f.d, x.f.s, x.f.bs, x.f.hs⟩, x.a1, x.c1, x.a2, x.c2⟩ : FH))[k]? = some (⟨⟨y.f.p, y.f.l, y.f.d, x.f.s, x.f.bs, x.f.hs⟩, x.a1, x.c1, x.a2, x.c2⟩ : FH) := List.getElem?_set_self hk
  have s4 := s3.1.stored k _ (⟨⟨y.f.p, y.f.l, y.f.d, y.f.s, x.f.bs, x.f.hs⟩, x.a1, x.c1, x.a2, x.c2⟩ : FH) hx3 3 (by decide) (.int .i64 y.f.s) rfl
  rw [List.set_set] at s4
  have hx4 : (xs.set k (⟨⟨y.f.p, y.f.l, y.f.d, y.f.s, x.f.bs, x.f.hs⟩, x.a1, x.c1, x.a2, x.c2⟩ : FH))[k]? = some (⟨⟨y.f.p, y.f.l, y.f.d, y.f.s, x.f.bs, x.f.hs⟩, x.a1, x.c1, x.a2, x.c2⟩ : FH) := List.getElem?_set_self hk
  have s5 := s4.1.stored k _ (⟨⟨y.f.p, y.f.l, y.f.d, y.f.s, y.f.bs, x.f.hs⟩, y.a1, y.c1, x.a2, x.c2⟩ : FH) hx4 4 (by decide) (.slice y.a1 y.f.bs.length y.c1) rfl
  rw [List.set_set] at s5
  have hx5 : (xs.set k (⟨⟨y.f.p, y.f.l, y.f.d, y.f.s, y.f.bs, x.f.hs⟩, y.a1, y.c1, x.a2, x.c2⟩ : FH))[k]? = some (⟨⟨y.f.p, y.f.l, y.f.d, y.f.s, y.f.bs, x.f.hs⟩, y.a1, y.c1, x.a2, x.c2⟩ : FH) := List.getElem?_set_self hk
  have s6 := s5.1.stored k _ y hx5 5 (by decide) (.slice y.a2 y.f.hs.length y.c2) rfl
  rw [List.set_set] at s6
  exact s6.1

theorem link_put {w : World} {base b cap : Nat} {xs : List LinkD} (h : OwnRow NK w base (some ⟨b, 0, none⟩) cap xs) (k : Nat) (x y : LinkD) (hx : xs[k]? = some x) : OwnRow NK ((w.setCell ⟨b, k * 2, none⟩ (.int .i64 y.a)).setCell ⟨b, k * 2 + 1, none⟩ (.int .i64 y.b)) base (some ⟨b, 0, none⟩) cap (xs.set k y) := by
  have hk : k < xs.length := (List.getElem?_eq_some_iff.1 hx).1
  have s1 := h.stored k _ (⟨y.a, x.b⟩ : LinkD) hx 0 (by decide) (.int .i64 y.a) rfl
  have hx1 : (xs.set k (⟨y.a, x.b⟩ : LinkD))[k]? = some (⟨y.a, x.b⟩ : LinkD) := List.getElem?_set_self hk
  have s2 := s1.1.stored k _ y hx1 1 (by decide) (.int .i64 y.b) rfl
  rw [List.set_set] at s2
  exact s2.1

theorem askh_put {w : World} {base b cap : Nat} {xs : List AH} (h : OwnRow HK2 w base (some ⟨b, 0, none⟩) cap xs) (k : Nat) (x y : AH) (hx : xs[k]? = some x) : OwnRow HK2 (w.setCell ⟨b, k, none⟩ (.slice y.a y.xs.length y.c)) base (some ⟨b, 0, none⟩) cap (xs.set k y) := by
  have hk : k < xs.length := (List.getElem?_eq_some_iff.1 hx).1
  have s1 := h.stored k _ y hx 0 (by decide) (.slice y.a y.xs.length y.c) rfl
  have e0 : k * HK2.k + 0 = k := by show k * 1 + 0 = k; omega
  rw [e0] at s1
  exact s1.1

theorem piece_put {w : World} {base b cap : Nat} {xs : List QH} (h : OwnRow QK w base (some ⟨b, 0, none⟩) cap xs) (k : Nat) (x y : QH) (hx : xs[k]? = some x) : OwnRow QK ((((((w.setCell ⟨b, k * 6, none⟩ (.int .i64 y.p.fr)).setCell ⟨b, k * 6 + 1, none⟩ (.int .i64 y.p.to)).setCell ⟨b, k * 6 + 2, none⟩ (.int .i64 y.p.ln)).setCell ⟨b, k * 6 + 3, none⟩ (.int .i64 y.p.ix)).setCell ⟨b, k * 6 + 4, none⟩ (.string y.p.tx)).setCell ⟨b, k * 6 + 5, none⟩ (.slice y.a y.p.pf.length y.c)) base (some ⟨b, 0, none⟩) cap (xs.set k y) := by
  have hk : k < xs.length := (List.getElem?_eq_some_iff.1 hx).1
  have s1 := h.stored k _ (⟨⟨y.p.fr, x.p.to, x.p.ln, x.p.ix, x.p.tx, x.p.pf⟩, x.a, x.c⟩ : QH) hx 0 (by decide) (.int .i64 y.p.fr) rfl
  have hx1 : (xs.set k (⟨⟨y.p.fr, x.p.to, x.p.ln, x.p.ix, x.p.tx, x.p.pf⟩, x.a, x.c⟩ : QH))[k]? = some (⟨⟨y.p.fr, x.p.to, x.p.ln, x.p.ix, x.p.tx, x.p.pf⟩, x.a, x.c⟩ : QH) := List.getElem?_set_self hk
  have s2 := s1.1.stored k _ (⟨⟨y.p.fr, y.p.to, x.p.ln, x.p.ix, x.p.tx, x.p.pf⟩, x.a, x.c⟩ : QH) hx1 1 (by decide) (.int .i64 y.p.to) rfl
  rw [List.set_set] at s2
  have hx2 : (xs.set k (⟨⟨y.p.fr, y.p.to, x.p.ln, x.p.ix, x.p.tx, x.p.pf⟩, x.a, x.c⟩ : QH))[k]? = some (⟨⟨y.p.fr, y.p.to, x.p.ln, x.p.ix, x.p.tx, x.p.pf⟩, x.a, x.c⟩ : QH) := List.getElem?_set_self hk
  have s3 := s2.1.stored k _ (⟨⟨y.p.fr, y.p.to, y.p.ln, x.p.ix, x.p.tx, x.p.pf⟩, x.a, x.c⟩ : QH) hx2 2 (by decide) (.int .i64 y.p.ln) rfl
  rw [List.set_set] at s3
  have hx3 : (xs.set k (⟨⟨y.p.fr, y.p.to, y.p.ln, x.p.ix, x.p.tx, x.p.pf⟩, x.a, x.c⟩ : QH))[k]? = some (⟨⟨y.p.fr, y.p.to, y.p.ln, x.p.ix, x.p.tx, x.p.pf⟩, x.a, x.c⟩ : QH) := List.getElem?_set_self hk
  have s4 := s3.1.stored k _ (⟨⟨y.p.fr, y.p.to, y.p.ln, y.p.ix, x.p.tx, x.p.pf⟩, x.a, x.c⟩ : QH) hx3 3 (by decide) (.int .i64 y.p.ix) rfl
  rw [List.set_set] at s4
  have hx4 : (xs.set k (⟨⟨y.p.fr, y.p.to, y.p.ln, y.p.ix, x.p.tx, x.p.pf⟩, x.a, x.c⟩ : QH))[k]? = some (⟨⟨y.p.fr, y.p.to, y.p.ln, y.p.ix, x.p.tx, x.p.pf⟩, x.a, x.c⟩ : QH) := List.getElem?_set_self hk
  have s5 := s4.1.stored k _ (⟨⟨y.p.fr, y.p.to, y.p.ln, y.p.ix, y.p.tx, x.p.pf⟩, x.a, x.c⟩ : QH) hx4 4 (by decide) (.string y.p.tx) rfl
  rw [List.set_set] at s5
  have hx5 : (xs.set k (⟨⟨y.p.fr, y.p.to, y.p.ln, y.p.ix, y.p.tx, x.p.pf⟩, x.a, x.c⟩ : QH))[k]? = some (⟨⟨y.p.fr, y.p.to, y.p.ln, y.p.ix, y.p.tx, x.p.pf⟩, x.a, x.c⟩ : QH) := List.getElem?_set_self hk
  have s6 := s5.1.stored k _ y hx5 5 (by decide) (.slice y.a y.p.pf.length y.c) rfl
  rw [List.set_set] at s6
  exact s6.1

set_option maxHeartbeats 1000000 in
set_option maxRecDepth 100000 in
theorem toLink_any (a b : Int) (w : World) :
    Calls Tryz.prog 69 #[.agg #[.int .i64 a, .int .i64 b]] w fun e w' => e = .returned (.agg #[.int .i64 a, .int .i64 b]) ∧ Below w.heap.size w w' := by
  go_enter Tryz.func69, Tryz.ntmps69
  go_wp2
  have hblk : Blk (((w.alloc (.cells #[.int .i64 a, .int .i64 b] 111)).alloc (.cells #[.int .i64 a, .int .i64 b] 73)).alloc (.cells #[.int .i64 a, .int .i64 b] 73)) (w.heap.size + 1) 73 #[.int .i64 a, .int .i64 b] := by
    have h := (Blk.new (w.alloc (.cells #[.int .i64 a, .int .i64 b] 111)) 73 #[.int .i64 a, .int .i64 b]).alloc (.cells #[.int .i64 a, .int .i64 b] 73)
    rw [World.size_alloc] at h
    exact h
  have hbel : Below w.heap.size w (((w.alloc (.cells #[.int .i64 a, .int .i64 b] 111)).alloc (.cells #[.int .i64 a, .int .i64 b] 73)).alloc (.cells #[.int .i64 a, .int .i64 b] 73)) :=
    (((Below.refl _ w).alloc (Nat.le_refl _) _).alloc (by simp) _).alloc (by simp; omega) _
  obtain ⟨W, HW⟩ : ∃ W, Hid (((w.alloc (.cells #[.int .i64 a, .int .i64 b] 111)).alloc (.cells #[.int .i64 a, .int .i64 b] 73)).alloc (.cells #[.int .i64 a, .int .i64 b] 73) = W) := ⟨_, rfl⟩
  rw [HW.out] at hblk hbel ⊢
  have c0 : W.cell? ⟨w.heap.size + 1, 0, none⟩ = some (.int .i64 a) := hblk.cell 0
  have c1 : W.cell? ⟨w.heap.size + 1, 1, none⟩ = some (.int .i64 b) := hblk.cell 1
  exact bodyPost_ret (v := .agg #[.int .i64 a, .int .i64 b]) (by simp [results, Tryz.results69, go_sem, c0, c1]) rfl ⟨rfl, hbel⟩

set_option maxHeartbeats 4000000 in
set_option maxRecDepth 100000 in
theorem toPiece_any (fr tq ln ix : Int) (tx : ByteArray) (A : Option Addr) (c : Nat) (pf : List Int) (w : World) (hI : IntsAt w w.heap.size A pf) (hm : pf.length ≤ 1048576) {n : Nat} (hn : pf.length = n) :
    Calls Tryz.prog 71 #[.agg #[.int .i64 fr, .int .i64 tq, .int .i64 ln, .int .i64 ix, .string tx, .slice A n c]] w fun e w' => ∃ g, e = .returned (.agg #[.int .i64 fr, .int .i64 tq, .int .i64 ln, .int .i64 ix, .string tx, .slice (some ⟨g, 0, none⟩) n n]) ∧ OwnInts w' w.heap.size (some ⟨g, 0, none⟩) n pf ∧ Below w.heap.size w w' := by
  have HI := Lib.hid hI
  have HN := Lib.hid hn
  have HMX := Lib.hid hm
  clear hI hn hm
  obtain ⟨W, HW⟩ : ∃ W, Hid (((w.alloc (.cells #[.int .i64 fr, .int .i64 tq, .int .i64 ln, .int .i64 ix, .string tx, .slice A n c] 89)).alloc (.cells #[.int .i64 0, .int .i64 0, .int .i64 0, .int .i64 0, .string (⟨#[]⟩ : ByteArray), .slice none 0 0] 62)).alloc (.cells #[.int .i64 fr, .int .i64 tq, .int .i64 ln, .int .i64 ix, .string tx, .slice none 0 0] 62) = W) := ⟨_, rfl⟩
  have HB : Hid (Below w.heap.size w W) := by rw [← HW.out]; exact (((Below.refl _ w).alloc (Nat.le_refl _) _).alloc (by simp) _).alloc (by simp; omega) _
  have hz : w.heap.size + 3 ≤ W.heap.size := by rw [← HW.out]; simp
  have KP : Hid (Blk W w.heap.size 89 #[.int .i64 fr, .int .i64 tq, .int .i64 ln, .int .i64 ix, .string tx, .slice A n c]) := by rw [← HW.out]; exact ((Blk.new w _ _).alloc _).alloc _
  have KR : Hid (Blk W (w.heap.size + 1) 62 #[.int .i64 0, .int .i64 0, .int .i64 0, .int .i64 0, .string (⟨#[]⟩ : ByteArray), .slice none 0 0]) := by
    rw [← HW.out]
    have h := (Blk.new (w.alloc (.cells #[.int .i64 fr, .int .i64 tq, .int .i64 ln, .int .i64 ix, .string tx, .slice A n c] 89)) 62 #[.int .i64 0, .int .i64 0, .int .i64 0, .int .i64 0, .string (⟨#[]⟩ : ByteArray), .slice none 0 0]).alloc (.cells #[.int .i64 fr, .int .i64 tq, .int .i64 ln, .int .i64 ix, .string tx, .slice none 0 0] 62)
    rw [World.size_alloc] at h
    exact h
  have KO : Hid (Blk W (w.heap.size + 1 + 1) 62 #[.int .i64 fr, .int .i64 tq, .int .i64 ln, .int .i64 ix, .string tx, .slice none 0 0]) := by
    rw [← HW.out]
    have h := Blk.new ((w.alloc (.cells #[.int .i64 fr, .int .i64 tq, .int .i64 ln, .int .i64 ix, .string tx, .slice A n c] 89)).alloc (.cells #[.int .i64 0, .int .i64 0, .int .i64 0, .int .i64 0, .string (⟨#[]⟩ : ByteArray), .slice none 0 0] 62)) 62 #[.int .i64 fr, .int .i64 tq, .int .i64 ln, .int .i64 ix, .string tx, .slice none 0 0]
    rw [World.size_alloc, World.size_alloc] at h
    exact h
  have C : Hid (Calls Tryz.prog 116 #[.slice A n c] W fun e w' => e = .returned (.slice (some ⟨W.heap.size, 0, none⟩) n n) ∧ OwnInts w' W.heap.size (some ⟨W.heap.size, 0, none⟩) n pf ∧ Below W.heap.size W w') := by
    have := toInts_any A c pf W (HI.out.belowS HB.out) HMX.out
    unfold Copied at this
    rw [HN.out] at this
    exact this
  go_enter Tryz.func71, Tryz.ntmps71
  go_wp2_with fail
  rw [HW.out]
  refine C.out.mono ?_
  rintro e w1 ⟨rfl, ho1, hb1⟩
  have HB1 : Hid (Below w.heap.size w w1) := HB.out.trans (hb1.mono HB.out.size)
  have KR1 := Lib.hid (KR.out.below hb1 (by omega))
  have KO1 := Lib.hid (KO.out.below hb1 (by omega))
  have HO1 := Lib.hid ho1
  have hz1 : W.heap.size ≤ w1.heap.size := hb1.size
  obtain ⟨o0, o1, o2, o3, o4, o5⟩ := run_cells KO1.out
  obtain ⟨r0, r1, r2, r3, r4, r5⟩ := run_cells KR1.out
  have of := blk_frozen KO1.out
  have rf := blk_frozen KR1.out
  have l1 := KR1.out.lt
  have l2 := KO1.out.lt
  clear ho1 hb1
  go_wp2
  obtain ⟨V, HV⟩ : ∃ V, Hid (((((((w1.setCell ⟨w.heap.size + 1 + 1, 5, none⟩ (.slice (some ⟨W.heap.size, 0, none⟩) n n)).setCell ⟨w.heap.size + 1, 0, none⟩ (.int .i64 fr)).setCell ⟨w.heap.size + 1, 1, none⟩ (.int .i64 tq)).setCell ⟨w.heap.size + 1, 2, none⟩ (.int .i64 ln)).setCell ⟨w.heap.size + 1, 3, none⟩ (.int .i64 ix)).setCell ⟨w.heap.size + 1, 4, none⟩ (.string tx)).setCell ⟨w.heap.size + 1, 5, none⟩ (.slice (some ⟨W.heap.size, 0, none⟩) n n) = V) := ⟨_, rfl⟩
  have KRX := KR1.out.setOther (p := ⟨w.heap.size + 1 + 1, 5, none⟩) (by show w.heap.size + 1 + 1 ≠ w.heap.size + 1; omega) (.slice (some ⟨W.heap.size, 0, none⟩) n n)
  have hblk := Lib.hid (blk_six KRX (.int .i64 fr) (.int .i64 tq) (.int .i64 ln) (.int .i64 ix) (.string tx) (.slice (some ⟨W.heap.size, 0, none⟩) n n))
  have hbel : Hid (Below w.heap.size w V) := by rw [← HV.out]; exact below_six (HB1.out.setCell (p := ⟨w.heap.size + 1 + 1, 5, none⟩) (by show w.heap.size ≤ w.heap.size + 1 + 1; omega) _) (by omega) _ _ _ _ _ _
  have hown : Hid (OwnInts V w.heap.size (some ⟨W.heap.size, 0, none⟩) n pf) := by
    rw [← HV.out]
    exact OwnInts.base_le (ownsRow_set (ownsRow_set (ownsRow_set (ownsRow_set (ownsRow_set (ownsRow_set (ownsRow_set HO1.out (p := ⟨w.heap.size + 1 + 1, 5, none⟩) (by show w.heap.size + 1 + 1 < W.heap.size; omega) _) (p := ⟨w.heap.size + 1, 0, none⟩) (by show w.heap.size + 1 < W.heap.size; omega) _) (p := ⟨w.heap.size + 1, 1, none⟩) (by show w.heap.size + 1 < W.heap.size; omega) _) (p := ⟨w.heap.size + 1, 2, none⟩) (by show w.heap.size + 1 < W.heap.size; omega) _) (p := ⟨w.heap.size + 1, 3, none⟩) (by show w.heap.size + 1 < W.heap.size; omega) _) (p := ⟨w.heap.size + 1, 4, none⟩) (by show w.heap.size + 1 < W.heap.size; omega) _) (p := ⟨w.heap.size + 1, 5, none⟩) (by show w.heap.size + 1 < W.heap.size; omega) _) (by omega)
  rw [HV.out] at hblk ⊢
  obtain ⟨c0, c1, c2, c3, c4, c5⟩ := run_cells hblk.out
  exact bodyPost_ret (v := .agg #[.int .i64 fr, .int .i64 tq, .int .i64 ln, .int .i64 ix, .string tx, .slice (some ⟨W.heap.size, 0, none⟩) n n]) (by simp [results, Tryz.results71, go_sem, c0, c1, c2, c3, c4, c5]) rfl ⟨W.heap.size, rfl, hown.out, hbel.out⟩

set_option maxHeartbeats 6000000 in
set_option maxRecDepth 100000 in
theorem toFeeds_any (A : Option Addr) (cap : Nat) (hs : List FH) (w : World) (h : RowAt FK w w.heap.size A hs) (hf : ∀ k, k < hs.length → FhAt w w.heap.size (fhth hs k)) (hsm : ∀ k, k < hs.length → (fhth hs k).f.bs.length ≤ 1048576 ∧ (fhth hs k).f.hs.length ≤ 1048576) (hm : hs.length ≤ 1048576) {n : Nat} (hn : hs.length = n) :
    Calls Tryz.prog 27 #[.slice A n cap] w fun e w' => ∃ ys g, e = .returned (.slice (some ⟨g, 0, none⟩) n n) ∧ ys.length = n ∧ ys.map FH.f = hs.map FH.f ∧ OwnRow FK w' w.heap.size (some ⟨g, 0, none⟩) n ys ∧ (∀ y ∈ ys, OwnF w' w.heap.size y) ∧ Below w.heap.size w w' := by
  rw [hn] at hm
  have HA := Lib.hid h
  have HN := Lib.hid hn
  have HF := Lib.hid hf
  have HSM := Lib.hid hsm
  clear hf hsm
  clear h hn
  obtain ⟨i0, hi0, hz0, hz1, hz2⟩ := info_parts feed_info
  have hmk := fun W => run_make_kind (P := Tryz.prog) FK 30 (⟨zeroF, none, 0, none, 0⟩ : FH) _ Tryz.underlying30 hi0 hz0 hz1 hz2 rfl .i64 .i64 n (by show 80 * n ≤ _; omega) (by omega) W
  obtain ⟨W, HW⟩ : ∃ Q0, Hid (w.alloc (.cells (FK.cells (List.replicate n (⟨zeroF, none, 0, none, 0⟩ : FH))).toArray FK.e) = Q0) := ⟨_, rfl⟩
  have HO0 : Hid (OwnRow FK W w.heap.size (some ⟨w.heap.size, 0, none⟩) n (List.replicate n (⟨zeroF, none, 0, none, 0⟩ : FH))) := by rw [← HW.out]; exact OwnRow.made FK w n (⟨zeroF, none, 0, none, 0⟩ : FH) (by unfold maxLen; omega)
  have HB0 : Hid (Below w.heap.size w W) := by rw [← HW.out]; exact (Below.refl _ _).alloc (Nat.le_refl _) _
  clear hz0 hz1 hz2 hi0
  go_enter Tryz.func27, Tryz.ntmps27
  go_upto_region 2 with fail
  rw [HW.out]
  clear hmk
  go_wp2
  go_loopw [4] (fun i w' => ∃ (k : Nat) (ys : List FH), k ≤ n ∧ i = .int .i64 (k : Int) ∧ Hid (ys.length = k) ∧ Hid (ys.map FH.f = (hs.map FH.f).take k) ∧ Hid (OwnRow FK w' w.heap.size (some ⟨w.heap.size, 0, none⟩) n (ys ++ List.replicate (n - k) (⟨zeroF, none, 0, none, 0⟩ : FH))) ∧ Hid (∀ y ∈ ys, OwnF w' (w.heap.size + 1) y) ∧ Hid (Below w.heap.size w w')) (fun i _ => n - (intOf i).toNat)
  case atStart => exact ⟨0, [], Nat.zero_le _, rfl, rfl, rfl, HO0, fun y hy => (by cases hy), HB0⟩
  case round =>
    obtain ⟨k, ys, hk, rfl, HYK, HMP, HO, HE, HB⟩ := hrel
    by_cases hkn : k < n
    · have hki : (k : Int) < (n : Int) := by omega
      have hkz : k < hs.length := by rw [HN.out]; exact hkn
      have hj := HA.out.belowS HB.out
      obtain ⟨b, o, rfl⟩ := hj.some_ (by omega)
      obtain ⟨c0, c1, c2, c3, c4, c5⟩ := feed_cells6 hj k hkz
      have HFk := Lib.hid (HF.out k hkz)
      have HSk := Lib.hid (HSM.out k hkz)
      have HGET := Lib.hid (fhth_get hs k hkz)
      obtain ⟨X, HX⟩ : ∃ x, Hid (fhth hs k = x) := ⟨_, rfl⟩
      rw [HX.out] at c0 c1 c2 c3 c4 c5 HFk HSk HGET
      obtain ⟨⟨xp, xl, xd, xs, xbs, xhs⟩, xa1, xc1, xa2, xc2⟩ := X
      dsimp only at c0 c1 c2 c3 c4 c5
      have CT : Hid (Calls Tryz.prog 68 #[feedV xp xl xd xs xa1 xbs.length xc1 xa2 xhs.length xc2] wr (CopiedF wr xp xl xd xs xbs xhs)) := toFeed_any xp xl xd xs xa1 xc1 xa2 xc2 xbs xhs wr (HFk.out.feed.belowS HB.out) HSk.out.1 HSk.out.2
      unfold CopiedF at CT
      obtain ⟨y1, HY1⟩ : ∃ x, Hid (xbs.length = x) := ⟨_, rfl⟩
      obtain ⟨y2, HY2⟩ : ∃ x, Hid (xhs.length = x) := ⟨_, rfl⟩
      rw [HY1.out] at c4 CT
      rw [HY2.out] at c5 CT
      clear hkz hj
      go_wp2_with fail
      refine CT.out.mono ?_
      rintro e w1 ⟨x1, x2, rfl, ho1, hb1⟩
      have HOF := Lib.hid ho1
      clear ho1
      have hsz : w.heap.size < wr.heap.size := (HO.out.lies _ rfl).2
      have HO1 := Lib.hid (HO.out.below hb1)
      have HE1 : Hid (∀ y ∈ ys, OwnF w1 (w.heap.size + 1) y) := fun y hy => (HE.out y hy).below hb1
      have HB1 : Hid (Below w.heap.size w w1) := HB.out.trans (hb1.mono HB.out.size)
      have HNEW : Hid (OwnF w1 (w.heap.size + 1) (⟨⟨xp, xl, xd, xs, xbs, xhs⟩, some ⟨x1, 0, none⟩, y1, some ⟨x2, 0, none⟩, y2⟩ : FH)) := OwnFeed.base_le (show OwnFeed w1 wr.heap.size (some ⟨x1, 0, none⟩) y1 (some ⟨x2, 0, none⟩) y2 xbs xhs from HOF.out) (by omega)
      clear hb1
      have hx0 := mid_get ys (⟨zeroF, none, 0, none, 0⟩ : FH) k n HYK.out hkn
      have z0 := HO1.out.cellF k _ hx0 0 _ rfl
      have z1 := HO1.out.cellF k _ hx0 1 _ rfl
      have z2 := HO1.out.cellF k _ hx0 2 _ rfl
      have z3 := HO1.out.cellF k _ hx0 3 _ rfl
      have z4 := HO1.out.cellF k _ hx0 4 _ rfl
      have z5 := HO1.out.cellF k _ hx0 5 _ rfl
      obtain ⟨d0, f0⟩ := z0
      obtain ⟨d1, f1⟩ := z1
      obtain ⟨d2, f2⟩ := z2
      obtain ⟨d3, f3⟩ := z3
      obtain ⟨d4, f4⟩ := z4
      obtain ⟨d5, f5⟩ := z5
      have d0 : w1.cell? ⟨w.heap.size, k * 6, none⟩ = _ := d0
      have f0 : w1.frozen? ⟨w.heap.size, k * 6, none⟩ = false := f0
      have d1 : w1.cell? ⟨w.heap.size, k * 6 + 1, none⟩ = _ := d1
      have f1 : w1.frozen? ⟨w.heap.size, k * 6 + 1, none⟩ = false := f1
      have d2 : w1.cell? ⟨w.heap.size, k * 6 + 2, none⟩ = _ := d2
      have f2 : w1.frozen? ⟨w.heap.size, k * 6 + 2, none⟩ = false := f2
      have d3 : w1.cell? ⟨w.heap.size, k * 6 + 3, none⟩ = _ := d3
      have f3 : w1.frozen? ⟨w.heap.size, k * 6 + 3, none⟩ = false := f3
      have d4 : w1.cell? ⟨w.heap.size, k * 6 + 4, none⟩ = _ := d4
      have f4 : w1.frozen? ⟨w.heap.size, k * 6 + 4, none⟩ = false := f4
      have d5 : w1.cell? ⟨w.heap.size, k * 6 + 5, none⟩ = _ := d5
      have f5 : w1.frozen? ⟨w.heap.size, k * 6 + 5, none⟩ = false := f5
      have HSAME : Hid (FH.f (⟨⟨xp, xl, xd, xs, xbs, xhs⟩, some ⟨x1, 0, none⟩, y1, some ⟨x2, 0, none⟩, y2⟩ : FH) = FH.f (⟨⟨xp, xl, xd, xs, xbs, xhs⟩, xa1, xc1, xa2, xc2⟩ : FH)) := rfl
      have HLY1 := Lib.hid HY1.out
      have HLY2 := Lib.hid HY2.out
      have hput := feed_put HO1.out k (⟨zeroF, none, 0, none, 0⟩ : FH) (⟨⟨xp, xl, xd, xs, xbs, xhs⟩, some ⟨x1, 0, none⟩, y1, some ⟨x2, 0, none⟩, y2⟩ : FH) hx0
      rw [mid_set ys (⟨zeroF, none, 0, none, 0⟩ : FH) (⟨⟨xp, xl, xd, xs, xbs, xhs⟩, some ⟨x1, 0, none⟩, y1, some ⟨x2, 0, none⟩, y2⟩ : FH) k n HYK.out hkn] at hput
      dsimp only at hput
      rw [HY1.out, HY2.out] at hput
      have HPUT := Lib.hid hput
      have HTK := Lib.hid (take_next FH.f ys hs k (⟨⟨xp, xl, xd, xs, xbs, xhs⟩, some ⟨x1, 0, none⟩, y1, some ⟨x2, 0, none⟩, y2⟩ : FH) _ HGET.out HSAME.out HMP.out)
      have HLN : Hid ((ys ++ [(⟨⟨xp, xl, xd, xs, xbs, xhs⟩, some ⟨x1, 0, none⟩, y1, some ⟨x2, 0, none⟩, y2⟩ : FH)]).length = k + 1) := by show _ = _; rw [List.length_append, HYK.out]; rfl
      clear hx0 hput
      go_wp2
      go_roundw
      case rel =>
        refine ⟨k + 1, ys ++ [(⟨⟨xp, xl, xd, xs, xbs, xhs⟩, some ⟨x1, 0, none⟩, y1, some ⟨x2, 0, none⟩, y2⟩ : FH)], by omega, by go_num, HLN, HTK, HPUT, (show Hid _ from fun y hy => ?_), ?_⟩
        · rcases List.mem_append.1 hy with e | e
          · exact ((((((HE1.out y e).set (p := ⟨w.heap.size, k * 6, none⟩) (by show w.heap.size < w.heap.size + 1; omega) _).set (p := ⟨w.heap.size, k * 6 + 1, none⟩) (by show w.heap.size < w.heap.size + 1; omega) _).set (p := ⟨w.heap.size, k * 6 + 2, none⟩) (by show w.heap.size < w.heap.size + 1; omega) _).set (p := ⟨w.heap.size, k * 6 + 3, none⟩) (by show w.heap.size < w.heap.size + 1; omega) _).set (p := ⟨w.heap.size, k * 6 + 4, none⟩) (by show w.heap.size < w.heap.size + 1; omega) _).set (p := ⟨w.heap.size, k * 6 + 5, none⟩) (by show w.heap.size < w.heap.size + 1; omega) _
          · rw [List.mem_singleton.1 e]
            exact ((((((HNEW.out).set (p := ⟨w.heap.size, k * 6, none⟩) (by show w.heap.size < w.heap.size + 1; omega) _).set (p := ⟨w.heap.size, k * 6 + 1, none⟩) (by show w.heap.size < w.heap.size + 1; omega) _).set (p := ⟨w.heap.size, k * 6 + 2, none⟩) (by show w.heap.size < w.heap.size + 1; omega) _).set (p := ⟨w.heap.size, k * 6 + 3, none⟩) (by show w.heap.size < w.heap.size + 1; omega) _).set (p := ⟨w.heap.size, k * 6 + 4, none⟩) (by show w.heap.size < w.heap.size + 1; omega) _).set (p := ⟨w.heap.size, k * 6 + 5, none⟩) (by show w.heap.size < w.heap.size + 1; omega) _
        · exact (((((((HB1.out).setCell (p := ⟨w.heap.size, k * 6, none⟩) (Nat.le_refl _) _).setCell (p := ⟨w.heap.size, k * 6 + 1, none⟩) (Nat.le_refl _) _).setCell (p := ⟨w.heap.size, k * 6 + 2, none⟩) (Nat.le_refl _) _).setCell (p := ⟨w.heap.size, k * 6 + 3, none⟩) (Nat.le_refl _) _).setCell (p := ⟨w.heap.size, k * 6 + 4, none⟩) (Nat.le_refl _) _).setCell (p := ⟨w.heap.size, k * 6 + 5, none⟩) (Nat.le_refl _) _)
      case measure => simp [intOf]; omega
    · have hke : k = n := by omega
      subst hke
      have HO' : Hid (OwnRow FK wr w.heap.size (some ⟨w.heap.size, 0, none⟩) k ys) := by
        have := HO.out
        rw [Nat.sub_self, List.replicate_zero, List.append_nil] at this
        exact this
      have HM' : Hid (ys.map FH.f = hs.map FH.f) := by
        have := HMP.out
        rwa [List.take_of_length_le (by rw [List.length_map, HN.out]; exact Nat.le_refl _)] at this
      have HE' : Hid (∀ y ∈ ys, OwnF wr w.heap.size y) := fun y hy => (HE.out y hy).base (by omega)
      go_wp2
      go_ret
      exact ⟨ys, w.heap.size, rfl, HYK.out, HM'.out, HO'.out, HE'.out, HB.out⟩

set_option maxHeartbeats 6000000 in
set_option maxRecDepth 100000 in
theorem toLinks_any (A : Option Addr) (cap : Nat) (hs : List LinkD) (w : World) (h : RowAt NK w w.heap.size A hs) (hm : hs.length ≤ 1048576) {n : Nat} (hn : hs.length = n) :
    Calls Tryz.prog 28 #[.slice A n cap] w fun e w' => ∃ ys g, e = .returned (.slice (some ⟨g, 0, none⟩) n n) ∧ ys.length = n ∧ ys.map id = hs.map id ∧ OwnRow NK w' w.heap.size (some ⟨g, 0, none⟩) n ys ∧ (∀ y ∈ ys, OwnL w' w.heap.size y) ∧ Below w.heap.size w w' := by
  rw [hn] at hm
  have HA := Lib.hid h
  have HN := Lib.hid hn

  clear h hn
  obtain ⟨i0, hi0, hz0, hz1, hz2⟩ := info_parts link_info
  have hmk := fun W => run_make_kind (P := Tryz.prog) NK 31 (⟨0, 0⟩ : LinkD) _ Tryz.underlying31 hi0 hz0 hz1 hz2 rfl .i64 .i64 n (by show 16 * n ≤ _; omega) (by omega) W
  obtain ⟨W, HW⟩ : ∃ Q0, Hid (w.alloc (.cells (NK.cells (List.replicate n (⟨0, 0⟩ : LinkD))).toArray NK.e) = Q0) := ⟨_, rfl⟩
  have HO0 : Hid (OwnRow NK W w.heap.size (some ⟨w.heap.size, 0, none⟩) n (List.replicate n (⟨0, 0⟩ : LinkD))) := by rw [← HW.out]; exact OwnRow.made NK w n (⟨0, 0⟩ : LinkD) (by unfold maxLen; omega)
  have HB0 : Hid (Below w.heap.size w W) := by rw [← HW.out]; exact (Below.refl _ _).alloc (Nat.le_refl _) _
  clear hz0 hz1 hz2 hi0
  go_enter Tryz.func28, Tryz.ntmps28
  go_upto_region 2 with fail
  rw [HW.out]
  clear hmk
  go_wp2
  go_loopw [4] (fun i w' => ∃ (k : Nat) (ys : List LinkD), k ≤ n ∧ i = .int .i64 (k : Int) ∧ Hid (ys.length = k) ∧ Hid (ys.map id = (hs.map id).take k) ∧ Hid (OwnRow NK w' w.heap.size (some ⟨w.heap.size, 0, none⟩) n (ys ++ List.replicate (n - k) (⟨0, 0⟩ : LinkD))) ∧ Hid (∀ y ∈ ys, OwnL w' (w.heap.size + 1) y) ∧ Hid (Below w.heap.size w w')) (fun i _ => n - (intOf i).toNat)
  case atStart => exact ⟨0, [], Nat.zero_le _, rfl, rfl, rfl, HO0, fun y hy => (by cases hy), HB0⟩
  case round =>
    obtain ⟨k, ys, hk, rfl, HYK, HMP, HO, HE, HB⟩ := hrel
    by_cases hkn : k < n
    · have hki : (k : Int) < (n : Int) := by omega
      have hkz : k < hs.length := by rw [HN.out]; exact hkn
      have hj := HA.out.belowS HB.out
      obtain ⟨b, o, rfl⟩ := hj.some_ (by omega)
      obtain ⟨c0, c1⟩ := link_cells2 hj k hkz
      have HGET := Lib.hid (kth2_get hs k hkz)
      obtain ⟨X, HX⟩ : ∃ x, Hid (kth2 hs k = x) := ⟨_, rfl⟩
      rw [HX.out] at c0 c1 HGET
      obtain ⟨xa, xb⟩ := X
      dsimp only at c0 c1
      have CT := Lib.hid (toLink_any xa xb wr)
      clear hkz hj
      go_wp2_with fail
      refine CT.out.mono ?_
      rintro e w1 ⟨rfl, hb1⟩
      have hsz : w.heap.size < wr.heap.size := (HO.out.lies _ rfl).2
      have HO1 := Lib.hid (HO.out.below hb1)
      have HE1 : Hid (∀ y ∈ ys, OwnL w1 (w.heap.size + 1) y) := fun y hy => (HE.out y hy).below hb1
      have HB1 : Hid (Below w.heap.size w w1) := HB.out.trans (hb1.mono HB.out.size)
      have HNEW : Hid (OwnL w1 (w.heap.size + 1) (⟨xa, xb⟩ : LinkD)) := trivial
      clear hb1
      have hx0 := mid_get ys (⟨0, 0⟩ : LinkD) k n HYK.out hkn
      have z0 := HO1.out.cellF k _ hx0 0 _ rfl
      have z1 := HO1.out.cellF k _ hx0 1 _ rfl
      obtain ⟨d0, f0⟩ := z0
      obtain ⟨d1, f1⟩ := z1
      have d0 : w1.cell? ⟨w.heap.size, k * 2, none⟩ = _ := d0
      have f0 : w1.frozen? ⟨w.heap.size, k * 2, none⟩ = false := f0
      have d1 : w1.cell? ⟨w.heap.size, k * 2 + 1, none⟩ = _ := d1
      have f1 : w1.frozen? ⟨w.heap.size, k * 2 + 1, none⟩ = false := f1
      have HSAME : Hid (id (⟨xa, xb⟩ : LinkD) = id (⟨xa, xb⟩ : LinkD)) := rfl
      have hput := link_put HO1.out k (⟨0, 0⟩ : LinkD) (⟨xa, xb⟩ : LinkD) hx0
      rw [mid_set ys (⟨0, 0⟩ : LinkD) (⟨xa, xb⟩ : LinkD) k n HYK.out hkn] at hput
      dsimp only at hput
      have HPUT := Lib.hid hput
      have HTK := Lib.hid (take_next id ys hs k (⟨xa, xb⟩ : LinkD) _ HGET.out HSAME.out HMP.out)
      have HLN : Hid ((ys ++ [(⟨xa, xb⟩ : LinkD)]).length = k + 1) := by show _ = _; rw [List.length_append, HYK.out]; rfl
      clear hx0 hput
      go_wp2
      go_roundw
      case rel =>
        refine ⟨k + 1, ys ++ [(⟨xa, xb⟩ : LinkD)], by omega, by go_num, HLN, HTK, HPUT, (show Hid _ from fun y hy => ?_), ?_⟩
        · rcases List.mem_append.1 hy with e | e
          · exact ((HE1.out y e).set (p := ⟨w.heap.size, k * 2, none⟩) (by show w.heap.size < w.heap.size + 1; omega) _).set (p := ⟨w.heap.size, k * 2 + 1, none⟩) (by show w.heap.size < w.heap.size + 1; omega) _
          · rw [List.mem_singleton.1 e]
            exact ((HNEW.out).set (p := ⟨w.heap.size, k * 2, none⟩) (by show w.heap.size < w.heap.size + 1; omega) _).set (p := ⟨w.heap.size, k * 2 + 1, none⟩) (by show w.heap.size < w.heap.size + 1; omega) _
        · exact (((HB1.out).setCell (p := ⟨w.heap.size, k * 2, none⟩) (Nat.le_refl _) _).setCell (p := ⟨w.heap.size, k * 2 + 1, none⟩) (Nat.le_refl _) _)
      case measure => simp [intOf]; omega
    · have hke : k = n := by omega
      subst hke
      have HO' : Hid (OwnRow NK wr w.heap.size (some ⟨w.heap.size, 0, none⟩) k ys) := by
        have := HO.out
        rw [Nat.sub_self, List.replicate_zero, List.append_nil] at this
        exact this
      have HM' : Hid (ys.map id = hs.map id) := by
        have := HMP.out
        rwa [List.take_of_length_le (by rw [List.length_map, HN.out]; exact Nat.le_refl _)] at this
      have HE' : Hid (∀ y ∈ ys, OwnL wr w.heap.size y) := fun y hy => (HE.out y hy).base (by omega)
      go_wp2
      go_ret
      exact ⟨ys, w.heap.size, rfl, HYK.out, HM'.out, HO'.out, HE'.out, HB.out⟩

set_option maxHeartbeats 6000000 in
set_option maxRecDepth 100000 in
theorem toAskss_any (A : Option Addr) (cap : Nat) (hs : List AH) (w : World) (h : RowAt HK2 w w.heap.size A hs) (hf : ∀ k, k < hs.length → AsksAt w w.heap.size (ahth hs k).a (ahth hs k).c (ahth hs k).xs) (hsm : ∀ k, k < hs.length → (ahth hs k).xs.length ≤ 1048576) (hm : hs.length ≤ 1048576) {n : Nat} (hn : hs.length = n) :
    Calls Tryz.prog 29 #[.slice A n cap] w fun e w' => ∃ ys g, e = .returned (.slice (some ⟨g, 0, none⟩) n n) ∧ ys.length = n ∧ ys.map AH.xs = hs.map AH.xs ∧ OwnRow HK2 w' w.heap.size (some ⟨g, 0, none⟩) n ys ∧ (∀ y ∈ ys, OwnA w' w.heap.size y) ∧ Below w.heap.size w w' := by
  rw [hn] at hm
  have HA := Lib.hid h
  have HN := Lib.hid hn
  have HF := Lib.hid hf
  have HSM := Lib.hid hsm
  clear hf hsm
  clear h hn
  obtain ⟨i0, hi0, hz0, hz1, hz2⟩ := info_parts asks_info
  have hmk := fun W => run_make_kind (P := Tryz.prog) HK2 32 (⟨none, 0, []⟩ : AH) _ Tryz.underlying32 hi0 hz0 hz1 hz2 rfl .i64 .i64 n (by show 24 * n ≤ _; omega) (by omega) W
  obtain ⟨W, HW⟩ : ∃ Q0, Hid (w.alloc (.cells (HK2.cells (List.replicate n (⟨none, 0, []⟩ : AH))).toArray HK2.e) = Q0) := ⟨_, rfl⟩
  have HO0 : Hid (OwnRow HK2 W w.heap.size (some ⟨w.heap.size, 0, none⟩) n (List.replicate n (⟨none, 0, []⟩ : AH))) := by rw [← HW.out]; exact OwnRow.made HK2 w n (⟨none, 0, []⟩ : AH) (by unfold maxLen; omega)
  have HB0 : Hid (Below w.heap.size w W) := by rw [← HW.out]; exact (Below.refl _ _).alloc (Nat.le_refl _) _
  clear hz0 hz1 hz2 hi0
  go_enter Tryz.func29, Tryz.ntmps29
  go_upto_region 2 with fail
  rw [HW.out]
  clear hmk
  go_wp2
  go_loopw [4] (fun i w' => ∃ (k : Nat) (ys : List AH), k ≤ n ∧ i = .int .i64 (k : Int) ∧ Hid (ys.length = k) ∧ Hid (ys.map AH.xs = (hs.map AH.xs).take k) ∧ Hid (OwnRow HK2 w' w.heap.size (some ⟨w.heap.size, 0, none⟩) n (ys ++ List.replicate (n - k) (⟨none, 0, []⟩ : AH))) ∧ Hid (∀ y ∈ ys, OwnA w' (w.heap.size + 1) y) ∧ Hid (Below w.heap.size w w')) (fun i _ => n - (intOf i).toNat)
  case atStart => exact ⟨0, [], Nat.zero_le _, rfl, rfl, rfl, HO0, fun y hy => (by cases hy), HB0⟩
  case round =>
    obtain ⟨k, ys, hk, rfl, HYK, HMP, HO, HE, HB⟩ := hrel
    by_cases hkn : k < n
    · have hki : (k : Int) < (n : Int) := by omega
      have hkz : k < hs.length := by rw [HN.out]; exact hkn
      have hj := HA.out.belowS HB.out
      obtain ⟨b, o, rfl⟩ := hj.some_ (by omega)
      have c0 := asks_cell1 hj k hkz
      have HFk := Lib.hid (HF.out k hkz)
      have HSk := Lib.hid (HSM.out k hkz)
      have HGET := Lib.hid (ahth_get hs k hkz)
      obtain ⟨X, HX⟩ : ∃ x, Hid (ahth hs k = x) := ⟨_, rfl⟩
      rw [HX.out] at c0 HFk HSk HGET
      obtain ⟨xa1, xc1, xxs⟩ := X
      dsimp only at c0
      have CT : Hid (Calls Tryz.prog 70 #[.slice xa1 xxs.length xc1] wr fun e w' => ∃ g, e = .returned (.slice (some ⟨g, 0, none⟩) xxs.length xxs.length) ∧ OwnRow AK w' wr.heap.size (some ⟨g, 0, none⟩) xxs.length xxs ∧ Below wr.heap.size wr w') := toAs_ret xa1 xc1 xxs wr (HFk.out.belowS HB.out).row HSk.out
      obtain ⟨y1, HY1⟩ : ∃ x, Hid (xxs.length = x) := ⟨_, rfl⟩
      rw [HY1.out] at c0 CT
      clear hkz hj
      go_wp2_with fail
      refine CT.out.mono ?_
      rintro e w1 ⟨x1, rfl, ho1, hb1⟩
      have HOF := Lib.hid ho1
      clear ho1
      have hsz : w.heap.size < wr.heap.size := (HO.out.lies _ rfl).2
      have HO1 := Lib.hid (HO.out.below hb1)
      have HE1 : Hid (∀ y ∈ ys, OwnA w1 (w.heap.size + 1) y) := fun y hy => (HE.out y hy).below hb1
      have HB1 : Hid (Below w.heap.size w w1) := HB.out.trans (hb1.mono HB.out.size)
      have HNEW : Hid (OwnA w1 (w.heap.size + 1) (⟨some ⟨x1, 0, none⟩, y1, xxs⟩ : AH)) := OwnRow.base_le (show OwnRow AK w1 wr.heap.size (some ⟨x1, 0, none⟩) y1 xxs from HOF.out) (by omega)
      clear hb1
      have hx0 := mid_get ys (⟨none, 0, []⟩ : AH) k n HYK.out hkn
      have z0 := HO1.out.cellF k _ hx0 0 _ rfl
      have e0 : k * HK2.k + 0 = k := by show k * 1 + 0 = k; omega
      rw [e0] at z0
      obtain ⟨d0, f0⟩ := z0
      clear e0
      have HSAME : Hid (AH.xs (⟨some ⟨x1, 0, none⟩, y1, xxs⟩ : AH) = AH.xs (⟨xa1, xc1, xxs⟩ : AH)) := rfl
      have hput := askh_put HO1.out k (⟨none, 0, []⟩ : AH) (⟨some ⟨x1, 0, none⟩, y1, xxs⟩ : AH) hx0
      rw [mid_set ys (⟨none, 0, []⟩ : AH) (⟨some ⟨x1, 0, none⟩, y1, xxs⟩ : AH) k n HYK.out hkn] at hput
      dsimp only at hput
      rw [HY1.out] at hput
      have HPUT := Lib.hid hput
      have HTK := Lib.hid (take_next AH.xs ys hs k (⟨some ⟨x1, 0, none⟩, y1, xxs⟩ : AH) _ HGET.out HSAME.out HMP.out)
      have HLN : Hid ((ys ++ [(⟨some ⟨x1, 0, none⟩, y1, xxs⟩ : AH)]).length = k + 1) := by show _ = _; rw [List.length_append, HYK.out]; rfl
      clear hx0 hput
      go_wp2
      go_roundw
      case rel =>
        refine ⟨k + 1, ys ++ [(⟨some ⟨x1, 0, none⟩, y1, xxs⟩ : AH)], by omega, by go_num, HLN, HTK, HPUT, (show Hid _ from fun y hy => ?_), ?_⟩
        · rcases List.mem_append.1 hy with e | e
          · exact (HE1.out y e).set (p := ⟨w.heap.size, k, none⟩) (by show w.heap.size < w.heap.size + 1; omega) _
          · rw [List.mem_singleton.1 e]
            exact (HNEW.out).set (p := ⟨w.heap.size, k, none⟩) (by show w.heap.size < w.heap.size + 1; omega) _
        · exact ((HB1.out).setCell (p := ⟨w.heap.size, k, none⟩) (Nat.le_refl _) _)
      case measure => simp [intOf]; omega
    · have hke : k = n := by omega
      subst hke
      have HO' : Hid (OwnRow HK2 wr w.heap.size (some ⟨w.heap.size, 0, none⟩) k ys) := by
        have := HO.out
        rw [Nat.sub_self, List.replicate_zero, List.append_nil] at this
        exact this
      have HM' : Hid (ys.map AH.xs = hs.map AH.xs) := by
        have := HMP.out
        rwa [List.take_of_length_le (by rw [List.length_map, HN.out]; exact Nat.le_refl _)] at this
      have HE' : Hid (∀ y ∈ ys, OwnA wr w.heap.size y) := fun y hy => (HE.out y hy).base (by omega)
      go_wp2
      go_ret
      exact ⟨ys, w.heap.size, rfl, HYK.out, HM'.out, HO'.out, HE'.out, HB.out⟩

set_option maxHeartbeats 6000000 in
set_option maxRecDepth 100000 in
theorem toPieces_any (A : Option Addr) (cap : Nat) (hs : List QH) (w : World) (h : RowAt QK w w.heap.size A hs) (hf : ∀ k, k < hs.length → QhAt w w.heap.size (qhth hs k)) (hsm : ∀ k, k < hs.length → (qhth hs k).p.pf.length ≤ 1048576) (hm : hs.length ≤ 1048576) {n : Nat} (hn : hs.length = n) :
    Calls Tryz.prog 30 #[.slice A n cap] w fun e w' => ∃ ys g, e = .returned (.slice (some ⟨g, 0, none⟩) n n) ∧ ys.length = n ∧ ys.map QH.p = hs.map QH.p ∧ OwnRow QK w' w.heap.size (some ⟨g, 0, none⟩) n ys ∧ (∀ y ∈ ys, OwnQ w' w.heap.size y) ∧ Below w.heap.size w w' := by
  rw [hn] at hm
  have HA := Lib.hid h
  have HN := Lib.hid hn
  have HF := Lib.hid hf
  have HSM := Lib.hid hsm
  clear hf hsm
  clear h hn
  obtain ⟨i0, hi0, hz0, hz1, hz2⟩ := info_parts piece_info
  have hmk := fun W => run_make_kind (P := Tryz.prog) QK 33 (⟨zeroP, none, 0⟩ : QH) _ Tryz.underlying33 hi0 hz0 hz1 hz2 rfl .i64 .i64 n (by show 72 * n ≤ _; omega) (by omega) W
  obtain ⟨W, HW⟩ : ∃ Q0, Hid (w.alloc (.cells (QK.cells (List.replicate n (⟨zeroP, none, 0⟩ : QH))).toArray QK.e) = Q0) := ⟨_, rfl⟩
  have HO0 : Hid (OwnRow QK W w.heap.size (some ⟨w.heap.size, 0, none⟩) n (List.replicate n (⟨zeroP, none, 0⟩ : QH))) := by rw [← HW.out]; exact OwnRow.made QK w n (⟨zeroP, none, 0⟩ : QH) (by unfold maxLen; omega)
  have HB0 : Hid (Below w.heap.size w W) := by rw [← HW.out]; exact (Below.refl _ _).alloc (Nat.le_refl _) _
  clear hz0 hz1 hz2 hi0
  go_enter Tryz.func30, Tryz.ntmps30
  go_upto_region 2 with fail
  rw [HW.out]
  clear hmk
  go_wp2
  go_loopw [4] (fun i w' => ∃ (k : Nat) (ys : List QH), k ≤ n ∧ i = .int .i64 (k : Int) ∧ Hid (ys.length = k) ∧ Hid (ys.map QH.p = (hs.map QH.p).take k) ∧ Hid (OwnRow QK w' w.heap.size (some ⟨w.heap.size, 0, none⟩) n (ys ++ List.replicate (n - k) (⟨zeroP, none, 0⟩ : QH))) ∧ Hid (∀ y ∈ ys, OwnQ w' (w.heap.size + 1) y) ∧ Hid (Below w.heap.size w w')) (fun i _ => n - (intOf i).toNat)
  case atStart => exact ⟨0, [], Nat.zero_le _, rfl, rfl, rfl, HO0, fun y hy => (by cases hy), HB0⟩
  case round =>
    obtain ⟨k, ys, hk, rfl, HYK, HMP, HO, HE, HB⟩ := hrel
    by_cases hkn : k < n
    · have hki : (k : Int) < (n : Int) := by omega
      have hkz : k < hs.length := by rw [HN.out]; exact hkn
      have hj := HA.out.belowS HB.out
      obtain ⟨b, o, rfl⟩ := hj.some_ (by omega)
      obtain ⟨c0, c1, c2, c3, c4, c5⟩ := piece_cells6 hj k hkz
      have HFk := Lib.hid (HF.out k hkz)
      have HSk := Lib.hid (HSM.out k hkz)
      have HGET := Lib.hid (qhth_get hs k hkz)
      obtain ⟨X, HX⟩ : ∃ x, Hid (qhth hs k = x) := ⟨_, rfl⟩
      rw [HX.out] at c0 c1 c2 c3 c4 c5 HFk HSk HGET
      obtain ⟨⟨xf, xt, xl, xi, xtx, xpf⟩, xa1, xc1⟩ := X
      dsimp only at c0 c1 c2 c3 c4 c5
      obtain ⟨y1, HY1⟩ : ∃ x, Hid (xpf.length = x) := ⟨_, rfl⟩
      have HTX := Lib.hid HFk.out.tx
      have CT := Lib.hid (toPiece_any xf xt xl xi xtx xa1 xc1 xpf wr (HFk.out.ints.belowS HB.out) HSk.out HY1.out)
      rw [HY1.out] at c5
      clear hkz hj
      go_wp2_with fail
      refine CT.out.mono ?_
      rintro e w1 ⟨x1, rfl, ho1, hb1⟩
      have HOF := Lib.hid ho1
      clear ho1
      have hsz : w.heap.size < wr.heap.size := (HO.out.lies _ rfl).2
      have HO1 := Lib.hid (HO.out.below hb1)
      have HE1 : Hid (∀ y ∈ ys, OwnQ w1 (w.heap.size + 1) y) := fun y hy => (HE.out y hy).below hb1
      have HB1 : Hid (Below w.heap.size w w1) := HB.out.trans (hb1.mono HB.out.size)
      have HNEW : Hid (OwnQ w1 (w.heap.size + 1) (⟨⟨xf, xt, xl, xi, xtx, xpf⟩, some ⟨x1, 0, none⟩, y1⟩ : QH)) := ⟨OwnInts.base_le (show OwnInts w1 wr.heap.size (some ⟨x1, 0, none⟩) y1 xpf from HOF.out) (by omega), HTX.out⟩
      clear hb1
      have hx0 := mid_get ys (⟨zeroP, none, 0⟩ : QH) k n HYK.out hkn
      have z0 := HO1.out.cellF k _ hx0 0 _ rfl
      have z1 := HO1.out.cellF k _ hx0 1 _ rfl
      have z2 := HO1.out.cellF k _ hx0 2 _ rfl
      have z3 := HO1.out.cellF k _ hx0 3 _ rfl
      have z4 := HO1.out.cellF k _ hx0 4 _ rfl
      have z5 := HO1.out.cellF k _ hx0 5 _ rfl
      obtain ⟨d0, f0⟩ := z0
      obtain ⟨d1, f1⟩ := z1
      obtain ⟨d2, f2⟩ := z2
      obtain ⟨d3, f3⟩ := z3
      obtain ⟨d4, f4⟩ := z4
      obtain ⟨d5, f5⟩ := z5
      have d0 : w1.cell? ⟨w.heap.size, k * 6, none⟩ = _ := d0
      have f0 : w1.frozen? ⟨w.heap.size, k * 6, none⟩ = false := f0
      have d1 : w1.cell? ⟨w.heap.size, k * 6 + 1, none⟩ = _ := d1
      have f1 : w1.frozen? ⟨w.heap.size, k * 6 + 1, none⟩ = false := f1
      have d2 : w1.cell? ⟨w.heap.size, k * 6 + 2, none⟩ = _ := d2
      have f2 : w1.frozen? ⟨w.heap.size, k * 6 + 2, none⟩ = false := f2
      have d3 : w1.cell? ⟨w.heap.size, k * 6 + 3, none⟩ = _ := d3
      have f3 : w1.frozen? ⟨w.heap.size, k * 6 + 3, none⟩ = false := f3
      have d4 : w1.cell? ⟨w.heap.size, k * 6 + 4, none⟩ = _ := d4
      have f4 : w1.frozen? ⟨w.heap.size, k * 6 + 4, none⟩ = false := f4
      have d5 : w1.cell? ⟨w.heap.size, k * 6 + 5, none⟩ = _ := d5
      have f5 : w1.frozen? ⟨w.heap.size, k * 6 + 5, none⟩ = false := f5
      have HSAME : Hid (QH.p (⟨⟨xf, xt, xl, xi, xtx, xpf⟩, some ⟨x1, 0, none⟩, y1⟩ : QH) = QH.p (⟨⟨xf, xt, xl, xi, xtx, xpf⟩, xa1, xc1⟩ : QH)) := rfl
      have hput := piece_put HO1.out k (⟨zeroP, none, 0⟩ : QH) (⟨⟨xf, xt, xl, xi, xtx, xpf⟩, some ⟨x1, 0, none⟩, y1⟩ : QH) hx0
      rw [mid_set ys (⟨zeroP, none, 0⟩ : QH) (⟨⟨xf, xt, xl, xi, xtx, xpf⟩, some ⟨x1, 0, none⟩, y1⟩ : QH) k n HYK.out hkn] at hput
      dsimp only at hput
      rw [HY1.out] at hput
      have HPUT := Lib.hid hput
      have HTK := Lib.hid (take_next QH.p ys hs k (⟨⟨xf, xt, xl, xi, xtx, xpf⟩, some ⟨x1, 0, none⟩, y1⟩ : QH) _ HGET.out HSAME.out HMP.out)
      have HLN : Hid ((ys ++ [(⟨⟨xf, xt, xl, xi, xtx, xpf⟩, some ⟨x1, 0, none⟩, y1⟩ : QH)]).length = k + 1) := by show _ = _; rw [List.length_append, HYK.out]; rfl
      clear hx0 hput
      go_wp2
      go_roundw
      case rel =>
        refine ⟨k + 1, ys ++ [(⟨⟨xf, xt, xl, xi, xtx, xpf⟩, some ⟨x1, 0, none⟩, y1⟩ : QH)], by omega, by go_num, HLN, HTK, HPUT, (show Hid _ from fun y hy => ?_), ?_⟩
        · rcases List.mem_append.1 hy with e | e
          · exact ((((((HE1.out y e).set (p := ⟨w.heap.size, k * 6, none⟩) (by show w.heap.size < w.heap.size + 1; omega) _).set (p := ⟨w.heap.size, k * 6 + 1, none⟩) (by show w.heap.size < w.heap.size + 1; omega) _).set (p := ⟨w.heap.size, k * 6 + 2, none⟩) (by show w.heap.size < w.heap.size + 1; omega) _).set (p := ⟨w.heap.size, k * 6 + 3, none⟩) (by show w.heap.size < w.heap.size + 1; omega) _).set (p := ⟨w.heap.size, k * 6 + 4, none⟩) (by show w.heap.size < w.heap.size + 1; omega) _).set (p := ⟨w.heap.size, k * 6 + 5, none⟩) (by show w.heap.size < w.heap.size + 1; omega) _
          · rw [List.mem_singleton.1 e]
            exact ((((((HNEW.out).set (p := ⟨w.heap.size, k * 6, none⟩) (by show w.heap.size < w.heap.size + 1; omega) _).set (p := ⟨w.heap.size, k * 6 + 1, none⟩) (by show w.heap.size < w.heap.size + 1; omega) _).set (p := ⟨w.heap.size, k * 6 + 2, none⟩) (by show w.heap.size < w.heap.size + 1; omega) _).set (p := ⟨w.heap.size, k * 6 + 3, none⟩) (by show w.heap.size < w.heap.size + 1; omega) _).set (p := ⟨w.heap.size, k * 6 + 4, none⟩) (by show w.heap.size < w.heap.size + 1; omega) _).set (p := ⟨w.heap.size, k * 6 + 5, none⟩) (by show w.heap.size < w.heap.size + 1; omega) _
        · exact (((((((HB1.out).setCell (p := ⟨w.heap.size, k * 6, none⟩) (Nat.le_refl _) _).setCell (p := ⟨w.heap.size, k * 6 + 1, none⟩) (Nat.le_refl _) _).setCell (p := ⟨w.heap.size, k * 6 + 2, none⟩) (Nat.le_refl _) _).setCell (p := ⟨w.heap.size, k * 6 + 3, none⟩) (Nat.le_refl _) _).setCell (p := ⟨w.heap.size, k * 6 + 4, none⟩) (Nat.le_refl _) _).setCell (p := ⟨w.heap.size, k * 6 + 5, none⟩) (Nat.le_refl _) _)
      case measure => simp [intOf]; omega
    · have hke : k = n := by omega
      subst hke
      have HO' : Hid (OwnRow QK wr w.heap.size (some ⟨w.heap.size, 0, none⟩) k ys) := by
        have := HO.out
        rw [Nat.sub_self, List.replicate_zero, List.append_nil] at this
        exact this
      have HM' : Hid (ys.map QH.p = hs.map QH.p) := by
        have := HMP.out
        rwa [List.take_of_length_le (by rw [List.length_map, HN.out]; exact Nat.le_refl _)] at this
      have HE' : Hid (∀ y ∈ ys, OwnQ wr w.heap.size y) := fun y hy => (HE.out y hy).base (by omega)
      go_wp2
      go_ret
      exact ⟨ys, w.heap.size, rfl, HYK.out, HM'.out, HO'.out, HE'.out, HB.out⟩

/-- What toWorld hands back. -/
def CopiedW (w : World) (sec bad : Int) (r : WR) (ls : List LinkD) (n1 n2 n3 n4 : Nat) (e : Ending) (w' : World) : Prop :=
  ∃ r', e = .returned (.agg #[.int .i64 sec, .int .i64 bad, .slice r'.A1 n1 r'.c1, .slice r'.A2 n2 r'.c2, .slice r'.A3 n3 r'.c3, .slice r'.A4 n4 r'.c4]) ∧ Alike r r' ∧ OwnRun w' w.heap.size r' ls ∧ Below w.heap.size w w'

set_option maxHeartbeats 8000000 in
set_option maxRecDepth 100000 in
theorem toRun_any (sec bad : Int) (r : WR) (ls : List LinkD) (w : World) (h : RunAt w w.heap.size r ls) (hs : SmallRun r ls) {n1 n2 n3 n4 : Nat} (hn1 : r.fh.length = n1) (hn2 : ls.length = n2) (hn3 : r.ah.length = n3) (hn4 : r.qh.length = n4) :
    Calls Tryz.prog 7 #[.agg #[.int .i64 sec, .int .i64 bad, .slice r.A1 n1 r.c1, .slice r.A2 n2 r.c2, .slice r.A3 n3 r.c3, .slice r.A4 n4 r.c4]] w (CopiedW w sec bad r ls n1 n2 n3 n4) := by
  have C1 : Hid (∀ U, Below w.heap.size w U → _) := fun U hU => by
    have a := h.belowS hU
    exact toFeeds_any r.A1 r.c1 r.fh U a.r1 (fun k hk => a.feed k hk) hs.f.2 hs.f.1 hn1
  have C2 : Hid (∀ U, Below w.heap.size w U → _) := fun U hU => by
    have a := h.belowS hU
    exact toLinks_any r.A2 r.c2 ls U a.r2 hs.l hn2
  have C3 : Hid (∀ U, Below w.heap.size w U → _) := fun U hU => by
    have a := h.belowS hU
    exact toAskss_any r.A3 r.c3 r.ah U a.r3 (fun k hk => a.asks k hk) hs.a.2 hs.a.1 hn3
  have C4 : Hid (∀ U, Below w.heap.size w U → _) := fun U hU => by
    have a := h.belowS hU
    exact toPieces_any r.A4 r.c4 r.qh U a.r4 (fun k hk => a.piece k hk) hs.q.2 hs.q.1 hn4
  clear h hs
  obtain ⟨W, HW⟩ : ∃ W, Hid (((w.alloc (.cells #[.int .i64 sec, .int .i64 bad, .slice r.A1 n1 r.c1, .slice r.A2 n2 r.c2, .slice r.A3 n3 r.c3, .slice r.A4 n4 r.c4] 27)).alloc (.cells #[.int .i64 0, .int .i64 0, .slice none 0 0, .slice none 0 0, .slice none 0 0, .slice none 0 0] 35)).alloc (.cells #[.int .i64 sec, .int .i64 bad, .slice none 0 0, .slice none 0 0, .slice none 0 0, .slice none 0 0] 35) = W) := ⟨_, rfl⟩
  have HB : Hid (Below w.heap.size w W) := by rw [← HW.out]; exact (((Below.refl _ w).alloc (Nat.le_refl _) _).alloc (by simp) _).alloc (by simp; omega) _
  have hz : w.heap.size + 3 ≤ W.heap.size := by rw [← HW.out]; simp
  have KP : Hid (Blk W w.heap.size 27 #[.int .i64 sec, .int .i64 bad, .slice r.A1 n1 r.c1, .slice r.A2 n2 r.c2, .slice r.A3 n3 r.c3, .slice r.A4 n4 r.c4]) := by rw [← HW.out]; exact ((Blk.new w _ _).alloc _).alloc _
  have KR : Hid (Blk W (w.heap.size + 1) 35 #[.int .i64 0, .int .i64 0, .slice none 0 0, .slice none 0 0, .slice none 0 0, .slice none 0 0]) := by
    rw [← HW.out]
    have h := (Blk.new (w.alloc (.cells #[.int .i64 sec, .int .i64 bad, .slice r.A1 n1 r.c1, .slice r.A2 n2 r.c2, .slice r.A3 n3 r.c3, .slice r.A4 n4 r.c4] 27)) 35 #[.int .i64 0, .int .i64 0, .slice none 0 0, .slice none 0 0, .slice none 0 0, .slice none 0 0]).alloc (.cells #[.int .i64 sec, .int .i64 bad, .slice none 0 0, .slice none 0 0, .slice none 0 0, .slice none 0 0] 35)
    rw [World.size_alloc] at h
    exact h
  have KO : Hid (Blk W (w.heap.size + 1 + 1) 35 #[.int .i64 sec, .int .i64 bad, .slice none 0 0, .slice none 0 0, .slice none 0 0, .slice none 0 0]) := by
    rw [← HW.out]
    have h := Blk.new ((w.alloc (.cells #[.int .i64 sec, .int .i64 bad, .slice r.A1 n1 r.c1, .slice r.A2 n2 r.c2, .slice r.A3 n3 r.c3, .slice r.A4 n4 r.c4] 27)).alloc (.cells #[.int .i64 0, .int .i64 0, .slice none 0 0, .slice none 0 0, .slice none 0 0, .slice none 0 0] 35)) 35 #[.int .i64 sec, .int .i64 bad, .slice none 0 0, .slice none 0 0, .slice none 0 0, .slice none 0 0]
    rw [World.size_alloc, World.size_alloc] at h
    exact h
  go_enter Tryz.func7, Tryz.ntmps7
  go_wp2_with fail
  rw [HW.out]
  refine (C1.out W HB.out).mono ?_
  rintro e w1 ⟨ys1, g1, rfl, hl, hm, ho, he, hb⟩
  have HLN1 := Lib.hid hl
  have HM1 := Lib.hid hm
  have HBw1 : Hid (Below w.heap.size w w1) := HB.out.trans (hb.mono HB.out.size)
  have hzw1 : W.heap.size ≤ w1.heap.size := hb.size
  have KPw1 := Lib.hid (KP.out.below hb (by omega))
  have KRw1 := Lib.hid (KR.out.below hb (by omega))
  have KOw1 := Lib.hid (KO.out.below hb (by omega))
  have ROw1 : Hid (OwnRow FK w1 (w.heap.size + 3) (some ⟨g1, 0, none⟩) n1 ys1) := OwnRow.base_le ho (by omega)
  have EOw1 : Hid (∀ y ∈ ys1, OwnF w1 (w.heap.size + 3) y) := fun y hy => (he y hy).base (by omega)
  clear hl hm ho he hb
  obtain ⟨a0, a1, a2, a3, a4, a5⟩ := run_cells KPw1.out
  obtain ⟨o0, o1, o2, o3, o4, o5⟩ := run_cells KOw1.out
  have of := blk_frozen KOw1.out
  obtain ⟨X1, HX1⟩ : ∃ X, Hid (w1.setCell ⟨w.heap.size + 1 + 1, 2, none⟩ (.slice (some ⟨g1, 0, none⟩) n1 n1) = X) := ⟨_, rfl⟩
  have HB1 : Hid (Below w.heap.size w X1) := by rw [← HX1.out]; exact HBw1.out.setCell (p := ⟨w.heap.size + 1 + 1, 2, none⟩) (by show w.heap.size ≤ w.heap.size + 1 + 1; omega) _
  have hzx1 : w.heap.size + 3 ≤ X1.heap.size := by rw [← HX1.out, World.size_setCell]; omega
  have KP1 : Hid (Blk X1 w.heap.size 27 #[.int .i64 sec, .int .i64 bad, .slice r.A1 n1 r.c1, .slice r.A2 n2 r.c2, .slice r.A3 n3 r.c3, .slice r.A4 n4 r.c4]) := by rw [← HX1.out]; exact KPw1.out.setOther (p := ⟨w.heap.size + 1 + 1, 2, none⟩) (by show w.heap.size + 1 + 1 ≠ w.heap.size; omega) _
  have KR1 : Hid (Blk X1 (w.heap.size + 1) 35 #[.int .i64 0, .int .i64 0, .slice none 0 0, .slice none 0 0, .slice none 0 0, .slice none 0 0]) := by rw [← HX1.out]; exact KRw1.out.setOther (p := ⟨w.heap.size + 1 + 1, 2, none⟩) (by show w.heap.size + 1 + 1 ≠ w.heap.size + 1; omega) _
  have KO1 : Hid (Blk X1 (w.heap.size + 1 + 1) 35 #[.int .i64 sec, .int .i64 bad, .slice (some ⟨g1, 0, none⟩) n1 n1, .slice none 0 0, .slice none 0 0, .slice none 0 0]) := by rw [← HX1.out]; exact KOw1.out.setOwn 2 (.slice (some ⟨g1, 0, none⟩) n1 n1)
  have ROx11 : Hid (OwnRow FK X1 (w.heap.size + 3) (some ⟨g1, 0, none⟩) n1 ys1) := by rw [← HX1.out]; exact OwnRow.set_ ROw1.out (p := ⟨w.heap.size + 1 + 1, 2, none⟩) (by show w.heap.size + 1 + 1 < w.heap.size + 3; omega) _
  have EOx11 : Hid (∀ y ∈ ys1, OwnF X1 (w.heap.size + 3) y) := by rw [← HX1.out]; exact fun y hy => (EOw1.out y hy).set (p := ⟨w.heap.size + 1 + 1, 2, none⟩) (by show w.heap.size + 1 + 1 < w.heap.size + 3; omega) _
  go_wp2_with fail
  rw [HX1.out]
  clear a0 a1 a2 a3 a4 a5 o0 o1 o2 o3 o4 o5 of
  refine (C2.out X1 HB1.out).mono ?_
  rintro e w2 ⟨ys2, g2, rfl, hl, hm, ho, he, hb⟩
  obtain rfl : ys2 = ls := by simpa using hm
  have HLN2 := Lib.hid hl
  have HM2 := Lib.hid hm
  have HBw2 : Hid (Below w.heap.size w w2) := HB1.out.trans (hb.mono HB1.out.size)
  have hzw2 : X1.heap.size ≤ w2.heap.size := hb.size
  have KPw2 := Lib.hid (KP1.out.below hb (by omega))
  have KRw2 := Lib.hid (KR1.out.below hb (by omega))
  have KOw2 := Lib.hid (KO1.out.below hb (by omega))
  have ROw2 : Hid (OwnRow NK w2 (w.heap.size + 3) (some ⟨g2, 0, none⟩) n2 ys2) := OwnRow.base_le ho (by omega)
  have ROz12 := Lib.hid (ROx11.out.below hb)
  have EOz12 : Hid (∀ y ∈ ys1, OwnF w2 (w.heap.size + 3) y) := fun y hy => (EOx11.out y hy).below hb
  clear hl hm ho he hb
  obtain ⟨a0, a1, a2, a3, a4, a5⟩ := run_cells KPw2.out
  obtain ⟨o0, o1, o2, o3, o4, o5⟩ := run_cells KOw2.out
  have of := blk_frozen KOw2.out
  obtain ⟨X2, HX2⟩ : ∃ X, Hid (w2.setCell ⟨w.heap.size + 1 + 1, 3, none⟩ (.slice (some ⟨g2, 0, none⟩) n2 n2) = X) := ⟨_, rfl⟩
  have HB2 : Hid (Below w.heap.size w X2) := by rw [← HX2.out]; exact HBw2.out.setCell (p := ⟨w.heap.size + 1 + 1, 3, none⟩) (by show w.heap.size ≤ w.heap.size + 1 + 1; omega) _
  have hzx2 : w.heap.size + 3 ≤ X2.heap.size := by rw [← HX2.out, World.size_setCell]; omega
  have KP2 : Hid (Blk X2 w.heap.size 27 #[.int .i64 sec, .int .i64 bad, .slice r.A1 n1 r.c1, .slice r.A2 n2 r.c2, .slice r.A3 n3 r.c3, .slice r.A4 n4 r.c4]) := by rw [← HX2.out]; exact KPw2.out.setOther (p := ⟨w.heap.size + 1 + 1, 3, none⟩) (by show w.heap.size + 1 + 1 ≠ w.heap.size; omega) _
  have KR2 : Hid (Blk X2 (w.heap.size + 1) 35 #[.int .i64 0, .int .i64 0, .slice none 0 0, .slice none 0 0, .slice none 0 0, .slice none 0 0]) := by rw [← HX2.out]; exact KRw2.out.setOther (p := ⟨w.heap.size + 1 + 1, 3, none⟩) (by show w.heap.size + 1 + 1 ≠ w.heap.size + 1; omega) _
  have KO2 : Hid (Blk X2 (w.heap.size + 1 + 1) 35 #[.int .i64 sec, .int .i64 bad, .slice (some ⟨g1, 0, none⟩) n1 n1, .slice (some ⟨g2, 0, none⟩) n2 n2, .slice none 0 0, .slice none 0 0]) := by rw [← HX2.out]; exact KOw2.out.setOwn 3 (.slice (some ⟨g2, 0, none⟩) n2 n2)
  have ROx12 : Hid (OwnRow FK X2 (w.heap.size + 3) (some ⟨g1, 0, none⟩) n1 ys1) := by rw [← HX2.out]; exact OwnRow.set_ ROz12.out (p := ⟨w.heap.size + 1 + 1, 3, none⟩) (by show w.heap.size + 1 + 1 < w.heap.size + 3; omega) _
  have EOx12 : Hid (∀ y ∈ ys1, OwnF X2 (w.heap.size + 3) y) := by rw [← HX2.out]; exact fun y hy => (EOz12.out y hy).set (p := ⟨w.heap.size + 1 + 1, 3, none⟩) (by show w.heap.size + 1 + 1 < w.heap.size + 3; omega) _
  have ROx22 : Hid (OwnRow NK X2 (w.heap.size + 3) (some ⟨g2, 0, none⟩) n2 ys2) := by rw [← HX2.out]; exact OwnRow.set_ ROw2.out (p := ⟨w.heap.size + 1 + 1, 3, none⟩) (by show w.heap.size + 1 + 1 < w.heap.size + 3; omega) _
  go_wp2_with fail
  rw [HX2.out]
  clear a0 a1 a2 a3 a4 a5 o0 o1 o2 o3 o4 o5 of
  refine (C3.out X2 HB2.out).mono ?_
  rintro e w3 ⟨ys3, g3, rfl, hl, hm, ho, he, hb⟩
  have HLN3 := Lib.hid hl
  have HM3 := Lib.hid hm
  have HBw3 : Hid (Below w.heap.size w w3) := HB2.out.trans (hb.mono HB2.out.size)
  have hzw3 : X2.heap.size ≤ w3.heap.size := hb.size
  have KPw3 := Lib.hid (KP2.out.below hb (by omega))
  have KRw3 := Lib.hid (KR2.out.below hb (by omega))
  have KOw3 := Lib.hid (KO2.out.below hb (by omega))
  have ROw3 : Hid (OwnRow HK2 w3 (w.heap.size + 3) (some ⟨g3, 0, none⟩) n3 ys3) := OwnRow.base_le ho (by omega)
  have EOw3 : Hid (∀ y ∈ ys3, OwnA w3 (w.heap.size + 3) y) := fun y hy => (he y hy).base (by omega)
  have ROz13 := Lib.hid (ROx12.out.below hb)
  have EOz13 : Hid (∀ y ∈ ys1, OwnF w3 (w.heap.size + 3) y) := fun y hy => (EOx12.out y hy).below hb
  have ROz23 := Lib.hid (ROx22.out.below hb)
  clear hl hm ho he hb
  obtain ⟨a0, a1, a2, a3, a4, a5⟩ := run_cells KPw3.out
  obtain ⟨o0, o1, o2, o3, o4, o5⟩ := run_cells KOw3.out
  have of := blk_frozen KOw3.out
  obtain ⟨X3, HX3⟩ : ∃ X, Hid (w3.setCell ⟨w.heap.size + 1 + 1, 4, none⟩ (.slice (some ⟨g3, 0, none⟩) n3 n3) = X) := ⟨_, rfl⟩
  have HB3 : Hid (Below w.heap.size w X3) := by rw [← HX3.out]; exact HBw3.out.setCell (p := ⟨w.heap.size + 1 + 1, 4, none⟩) (by show w.heap.size ≤ w.heap.size + 1 + 1; omega) _
  have hzx3 : w.heap.size + 3 ≤ X3.heap.size := by rw [← HX3.out, World.size_setCell]; omega
  have KP3 : Hid (Blk X3 w.heap.size 27 #[.int .i64 sec, .int .i64 bad, .slice r.A1 n1 r.c1, .slice r.A2 n2 r.c2, .slice r.A3 n3 r.c3, .slice r.A4 n4 r.c4]) := by rw [← HX3.out]; exact KPw3.out.setOther (p := ⟨w.heap.size + 1 + 1, 4, none⟩) (by show w.heap.size + 1 + 1 ≠ w.heap.size; omega) _
  have KR3 : Hid (Blk X3 (w.heap.size + 1) 35 #[.int .i64 0, .int .i64 0, .slice none 0 0, .slice none 0 0, .slice none 0 0, .slice none 0 0]) := by rw [← HX3.out]; exact KRw3.out.setOther (p := ⟨w.heap.size + 1 + 1, 4, none⟩) (by show w.heap.size + 1 + 1 ≠ w.heap.size + 1; omega) _
  have KO3 : Hid (Blk X3 (w.heap.size + 1 + 1) 35 #[.int .i64 sec, .int .i64 bad, .slice (some ⟨g1, 0, none⟩) n1 n1, .slice (some ⟨g2, 0, none⟩) n2 n2, .slice (some ⟨g3, 0, none⟩) n3 n3, .slice none 0 0]) := by rw [← HX3.out]; exact KOw3.out.setOwn 4 (.slice (some ⟨g3, 0, none⟩) n3 n3)
  have ROx13 : Hid (OwnRow FK X3 (w.heap.size + 3) (some ⟨g1, 0, none⟩) n1 ys1) := by rw [← HX3.out]; exact OwnRow.set_ ROz13.out (p := ⟨w.heap.size + 1 + 1, 4, none⟩) (by show w.heap.size + 1 + 1 < w.heap.size + 3; omega) _
  have EOx13 : Hid (∀ y ∈ ys1, OwnF X3 (w.heap.size + 3) y) := by rw [← HX3.out]; exact fun y hy => (EOz13.out y hy).set (p := ⟨w.heap.size + 1 + 1, 4, none⟩) (by show w.heap.size + 1 + 1 < w.heap.size + 3; omega) _
  have ROx23 : Hid (OwnRow NK X3 (w.heap.size + 3) (some ⟨g2, 0, none⟩) n2 ys2) := by rw [← HX3.out]; exact OwnRow.set_ ROz23.out (p := ⟨w.heap.size + 1 + 1, 4, none⟩) (by show w.heap.size + 1 + 1 < w.heap.size + 3; omega) _
  have ROx33 : Hid (OwnRow HK2 X3 (w.heap.size + 3) (some ⟨g3, 0, none⟩) n3 ys3) := by rw [← HX3.out]; exact OwnRow.set_ ROw3.out (p := ⟨w.heap.size + 1 + 1, 4, none⟩) (by show w.heap.size + 1 + 1 < w.heap.size + 3; omega) _
  have EOx33 : Hid (∀ y ∈ ys3, OwnA X3 (w.heap.size + 3) y) := by rw [← HX3.out]; exact fun y hy => (EOw3.out y hy).set (p := ⟨w.heap.size + 1 + 1, 4, none⟩) (by show w.heap.size + 1 + 1 < w.heap.size + 3; omega) _
  go_wp2_with fail
  rw [HX3.out]
  clear a0 a1 a2 a3 a4 a5 o0 o1 o2 o3 o4 o5 of
  refine (C4.out X3 HB3.out).mono ?_
  rintro e w4 ⟨ys4, g4, rfl, hl, hm, ho, he, hb⟩
  have HLN4 := Lib.hid hl
  have HM4 := Lib.hid hm
  have HBw4 : Hid (Below w.heap.size w w4) := HB3.out.trans (hb.mono HB3.out.size)
  have hzw4 : X3.heap.size ≤ w4.heap.size := hb.size
  have KPw4 := Lib.hid (KP3.out.below hb (by omega))
  have KRw4 := Lib.hid (KR3.out.below hb (by omega))
  have KOw4 := Lib.hid (KO3.out.below hb (by omega))
  have ROw4 : Hid (OwnRow QK w4 (w.heap.size + 3) (some ⟨g4, 0, none⟩) n4 ys4) := OwnRow.base_le ho (by omega)
  have EOw4 : Hid (∀ y ∈ ys4, OwnQ w4 (w.heap.size + 3) y) := fun y hy => (he y hy).base (by omega)
  have ROz14 := Lib.hid (ROx13.out.below hb)
  have EOz14 : Hid (∀ y ∈ ys1, OwnF w4 (w.heap.size + 3) y) := fun y hy => (EOx13.out y hy).below hb
  have ROz24 := Lib.hid (ROx23.out.below hb)
  have ROz34 := Lib.hid (ROx33.out.below hb)
  have EOz34 : Hid (∀ y ∈ ys3, OwnA w4 (w.heap.size + 3) y) := fun y hy => (EOx33.out y hy).below hb
  clear hl hm ho he hb
  obtain ⟨o0, o1, o2, o3, o4, o5⟩ := run_cells KOw4.out
  have of := blk_frozen KOw4.out
  obtain ⟨X4, HX4⟩ : ∃ X, Hid (w4.setCell ⟨w.heap.size + 1 + 1, 5, none⟩ (.slice (some ⟨g4, 0, none⟩) n4 n4) = X) := ⟨_, rfl⟩
  have HB4 : Hid (Below w.heap.size w X4) := by rw [← HX4.out]; exact HBw4.out.setCell (p := ⟨w.heap.size + 1 + 1, 5, none⟩) (by show w.heap.size ≤ w.heap.size + 1 + 1; omega) _
  have hzx4 : w.heap.size + 3 ≤ X4.heap.size := by rw [← HX4.out, World.size_setCell]; omega
  have KP4 : Hid (Blk X4 w.heap.size 27 #[.int .i64 sec, .int .i64 bad, .slice r.A1 n1 r.c1, .slice r.A2 n2 r.c2, .slice r.A3 n3 r.c3, .slice r.A4 n4 r.c4]) := by rw [← HX4.out]; exact KPw4.out.setOther (p := ⟨w.heap.size + 1 + 1, 5, none⟩) (by show w.heap.size + 1 + 1 ≠ w.heap.size; omega) _
  have KR4 : Hid (Blk X4 (w.heap.size + 1) 35 #[.int .i64 0, .int .i64 0, .slice none 0 0, .slice none 0 0, .slice none 0 0, .slice none 0 0]) := by rw [← HX4.out]; exact KRw4.out.setOther (p := ⟨w.heap.size + 1 + 1, 5, none⟩) (by show w.heap.size + 1 + 1 ≠ w.heap.size + 1; omega) _
  have KO4 : Hid (Blk X4 (w.heap.size + 1 + 1) 35 #[.int .i64 sec, .int .i64 bad, .slice (some ⟨g1, 0, none⟩) n1 n1, .slice (some ⟨g2, 0, none⟩) n2 n2, .slice (some ⟨g3, 0, none⟩) n3 n3, .slice (some ⟨g4, 0, none⟩) n4 n4]) := by rw [← HX4.out]; exact KOw4.out.setOwn 5 (.slice (some ⟨g4, 0, none⟩) n4 n4)
  have ROx14 : Hid (OwnRow FK X4 (w.heap.size + 3) (some ⟨g1, 0, none⟩) n1 ys1) := by rw [← HX4.out]; exact OwnRow.set_ ROz14.out (p := ⟨w.heap.size + 1 + 1, 5, none⟩) (by show w.heap.size + 1 + 1 < w.heap.size + 3; omega) _
  have EOx14 : Hid (∀ y ∈ ys1, OwnF X4 (w.heap.size + 3) y) := by rw [← HX4.out]; exact fun y hy => (EOz14.out y hy).set (p := ⟨w.heap.size + 1 + 1, 5, none⟩) (by show w.heap.size + 1 + 1 < w.heap.size + 3; omega) _
  have ROx24 : Hid (OwnRow NK X4 (w.heap.size + 3) (some ⟨g2, 0, none⟩) n2 ys2) := by rw [← HX4.out]; exact OwnRow.set_ ROz24.out (p := ⟨w.heap.size + 1 + 1, 5, none⟩) (by show w.heap.size + 1 + 1 < w.heap.size + 3; omega) _
  have ROx34 : Hid (OwnRow HK2 X4 (w.heap.size + 3) (some ⟨g3, 0, none⟩) n3 ys3) := by rw [← HX4.out]; exact OwnRow.set_ ROz34.out (p := ⟨w.heap.size + 1 + 1, 5, none⟩) (by show w.heap.size + 1 + 1 < w.heap.size + 3; omega) _
  have EOx34 : Hid (∀ y ∈ ys3, OwnA X4 (w.heap.size + 3) y) := by rw [← HX4.out]; exact fun y hy => (EOz34.out y hy).set (p := ⟨w.heap.size + 1 + 1, 5, none⟩) (by show w.heap.size + 1 + 1 < w.heap.size + 3; omega) _
  have ROx44 : Hid (OwnRow QK X4 (w.heap.size + 3) (some ⟨g4, 0, none⟩) n4 ys4) := by rw [← HX4.out]; exact OwnRow.set_ ROw4.out (p := ⟨w.heap.size + 1 + 1, 5, none⟩) (by show w.heap.size + 1 + 1 < w.heap.size + 3; omega) _
  have EOx44 : Hid (∀ y ∈ ys4, OwnQ X4 (w.heap.size + 3) y) := by rw [← HX4.out]; exact fun y hy => (EOw4.out y hy).set (p := ⟨w.heap.size + 1 + 1, 5, none⟩) (by show w.heap.size + 1 + 1 < w.heap.size + 3; omega) _
  clear o0 o1 o2 o3 o4 o5 of
  obtain ⟨o0, o1, o2, o3, o4, o5⟩ := run_cells KOw4.out
  have of := blk_frozen KOw4.out
  go_upto_region 8 with fail
  rw [HX4.out]
  clear o0 o1 o2 o3 o4 o5 of
  obtain ⟨o0, o1, o2, o3, o4, o5⟩ := run_cells KO4.out
  have ofr := blk_frozen KR4.out
  obtain ⟨r0, r1, r2, r3, r4, r5⟩ := run_cells KR4.out
  have l1 := KR4.out.lt
  have l2 := KO4.out.lt
  go_wp2
  obtain ⟨V, HV⟩ : ∃ V, Hid ((((((X4.setCell ⟨w.heap.size + 1, 0, none⟩ (.int .i64 sec)).setCell ⟨w.heap.size + 1, 1, none⟩ (.int .i64 bad)).setCell ⟨w.heap.size + 1, 2, none⟩ (.slice (some ⟨g1, 0, none⟩) n1 n1)).setCell ⟨w.heap.size + 1, 3, none⟩ (.slice (some ⟨g2, 0, none⟩) n2 n2)).setCell ⟨w.heap.size + 1, 4, none⟩ (.slice (some ⟨g3, 0, none⟩) n3 n3)).setCell ⟨w.heap.size + 1, 5, none⟩ (.slice (some ⟨g4, 0, none⟩) n4 n4) = V) := ⟨_, rfl⟩
  have hblk := Lib.hid (blk_six KR4.out (.int .i64 sec) (.int .i64 bad) (.slice (some ⟨g1, 0, none⟩) n1 n1) (.slice (some ⟨g2, 0, none⟩) n2 n2) (.slice (some ⟨g3, 0, none⟩) n3 n3) (.slice (some ⟨g4, 0, none⟩) n4 n4))
  have hbel : Hid (Below w.heap.size w V) := by rw [← HV.out]; exact below_six HB4.out (by omega) _ _ _ _ _ _
  have HOWN : Hid (OwnRun V w.heap.size ⟨some ⟨g1, 0, none⟩, n1, ys1, some ⟨g2, 0, none⟩, n2, some ⟨g3, 0, none⟩, n3, ys3, some ⟨g4, 0, none⟩, n4, ys4⟩ ys2) := by
    rw [← HV.out]
    refine ⟨?_, ?_, ?_, ?_, fun y hy => ?_, fun y hy => ?_, fun y hy => ?_⟩
    · exact OwnRow.base_le (((((((ROx14.out).set_ (p := ⟨w.heap.size + 1, 0, none⟩) (by show w.heap.size + 1 < w.heap.size + 3; omega) _).set_ (p := ⟨w.heap.size + 1, 1, none⟩) (by show w.heap.size + 1 < w.heap.size + 3; omega) _).set_ (p := ⟨w.heap.size + 1, 2, none⟩) (by show w.heap.size + 1 < w.heap.size + 3; omega) _).set_ (p := ⟨w.heap.size + 1, 3, none⟩) (by show w.heap.size + 1 < w.heap.size + 3; omega) _).set_ (p := ⟨w.heap.size + 1, 4, none⟩) (by show w.heap.size + 1 < w.heap.size + 3; omega) _).set_ (p := ⟨w.heap.size + 1, 5, none⟩) (by show w.heap.size + 1 < w.heap.size + 3; omega) _) (by omega)
    · exact OwnRow.base_le (((((((ROx24.out).set_ (p := ⟨w.heap.size + 1, 0, none⟩) (by show w.heap.size + 1 < w.heap.size + 3; omega) _).set_ (p := ⟨w.heap.size + 1, 1, none⟩) (by show w.heap.size + 1 < w.heap.size + 3; omega) _).set_ (p := ⟨w.heap.size + 1, 2, none⟩) (by show w.heap.size + 1 < w.heap.size + 3; omega) _).set_ (p := ⟨w.heap.size + 1, 3, none⟩) (by show w.heap.size + 1 < w.heap.size + 3; omega) _).set_ (p := ⟨w.heap.size + 1, 4, none⟩) (by show w.heap.size + 1 < w.heap.size + 3; omega) _).set_ (p := ⟨w.heap.size + 1, 5, none⟩) (by show w.heap.size + 1 < w.heap.size + 3; omega) _) (by omega)
    · exact OwnRow.base_le (((((((ROx34.out).set_ (p := ⟨w.heap.size + 1, 0, none⟩) (by show w.heap.size + 1 < w.heap.size + 3; omega) _).set_ (p := ⟨w.heap.size + 1, 1, none⟩) (by show w.heap.size + 1 < w.heap.size + 3; omega) _).set_ (p := ⟨w.heap.size + 1, 2, none⟩) (by show w.heap.size + 1 < w.heap.size + 3; omega) _).set_ (p := ⟨w.heap.size + 1, 3, none⟩) (by show w.heap.size + 1 < w.heap.size + 3; omega) _).set_ (p := ⟨w.heap.size + 1, 4, none⟩) (by show w.heap.size + 1 < w.heap.size + 3; omega) _).set_ (p := ⟨w.heap.size + 1, 5, none⟩) (by show w.heap.size + 1 < w.heap.size + 3; omega) _) (by omega)
    · exact OwnRow.base_le (((((((ROx44.out).set_ (p := ⟨w.heap.size + 1, 0, none⟩) (by show w.heap.size + 1 < w.heap.size + 3; omega) _).set_ (p := ⟨w.heap.size + 1, 1, none⟩) (by show w.heap.size + 1 < w.heap.size + 3; omega) _).set_ (p := ⟨w.heap.size + 1, 2, none⟩) (by show w.heap.size + 1 < w.heap.size + 3; omega) _).set_ (p := ⟨w.heap.size + 1, 3, none⟩) (by show w.heap.size + 1 < w.heap.size + 3; omega) _).set_ (p := ⟨w.heap.size + 1, 4, none⟩) (by show w.heap.size + 1 < w.heap.size + 3; omega) _).set_ (p := ⟨w.heap.size + 1, 5, none⟩) (by show w.heap.size + 1 < w.heap.size + 3; omega) _) (by omega)
    · exact OwnF.base (((((((EOx14.out y hy).set (p := ⟨w.heap.size + 1, 0, none⟩) (by show w.heap.size + 1 < w.heap.size + 3; omega) _).set (p := ⟨w.heap.size + 1, 1, none⟩) (by show w.heap.size + 1 < w.heap.size + 3; omega) _).set (p := ⟨w.heap.size + 1, 2, none⟩) (by show w.heap.size + 1 < w.heap.size + 3; omega) _).set (p := ⟨w.heap.size + 1, 3, none⟩) (by show w.heap.size + 1 < w.heap.size + 3; omega) _).set (p := ⟨w.heap.size + 1, 4, none⟩) (by show w.heap.size + 1 < w.heap.size + 3; omega) _).set (p := ⟨w.heap.size + 1, 5, none⟩) (by show w.heap.size + 1 < w.heap.size + 3; omega) _) (by omega)
    · exact OwnA.base (((((((EOx34.out y hy).set (p := ⟨w.heap.size + 1, 0, none⟩) (by show w.heap.size + 1 < w.heap.size + 3; omega) _).set (p := ⟨w.heap.size + 1, 1, none⟩) (by show w.heap.size + 1 < w.heap.size + 3; omega) _).set (p := ⟨w.heap.size + 1, 2, none⟩) (by show w.heap.size + 1 < w.heap.size + 3; omega) _).set (p := ⟨w.heap.size + 1, 3, none⟩) (by show w.heap.size + 1 < w.heap.size + 3; omega) _).set (p := ⟨w.heap.size + 1, 4, none⟩) (by show w.heap.size + 1 < w.heap.size + 3; omega) _).set (p := ⟨w.heap.size + 1, 5, none⟩) (by show w.heap.size + 1 < w.heap.size + 3; omega) _) (by omega)
    · exact OwnQ.base (((((((EOx44.out y hy).set (p := ⟨w.heap.size + 1, 0, none⟩) (by show w.heap.size + 1 < w.heap.size + 3; omega) _).set (p := ⟨w.heap.size + 1, 1, none⟩) (by show w.heap.size + 1 < w.heap.size + 3; omega) _).set (p := ⟨w.heap.size + 1, 2, none⟩) (by show w.heap.size + 1 < w.heap.size + 3; omega) _).set (p := ⟨w.heap.size + 1, 3, none⟩) (by show w.heap.size + 1 < w.heap.size + 3; omega) _).set (p := ⟨w.heap.size + 1, 4, none⟩) (by show w.heap.size + 1 < w.heap.size + 3; omega) _).set (p := ⟨w.heap.size + 1, 5, none⟩) (by show w.heap.size + 1 < w.heap.size + 3; omega) _) (by omega)
  have HAL : Hid (Alike r ⟨some ⟨g1, 0, none⟩, n1, ys1, some ⟨g2, 0, none⟩, n2, some ⟨g3, 0, none⟩, n3, ys3, some ⟨g4, 0, none⟩, n4, ys4⟩) := ⟨HM1.out.symm, HM3.out.symm, HM4.out.symm⟩
  rw [HV.out] at hblk ⊢
  obtain ⟨c0, c1, c2, c3, c4, c5⟩ := run_cells hblk.out
  exact bodyPost_ret (v := .agg #[.int .i64 sec, .int .i64 bad, .slice (some ⟨g1, 0, none⟩) n1 n1, .slice (some ⟨g2, 0, none⟩) n2 n2, .slice (some ⟨g3, 0, none⟩) n3 n3, .slice (some ⟨g4, 0, none⟩) n4 n4]) (by simp [results, Tryz.results7, go_sem, c0, c1, c2, c3, c4, c5]) rfl ⟨⟨some ⟨g1, 0, none⟩, n1, ys1, some ⟨g2, 0, none⟩, n2, some ⟨g3, 0, none⟩, n3, ys3, some ⟨g4, 0, none⟩, n4, ys4⟩, rfl, HAL.out, HOWN.out, hbel.out⟩
end Go.Proofs.YtkmebilhbjcfpaaGreat
