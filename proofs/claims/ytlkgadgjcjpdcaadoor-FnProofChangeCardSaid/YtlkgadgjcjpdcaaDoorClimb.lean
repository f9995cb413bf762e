/- Contract of climbTree: the tree above a leaf. Conditions: the leaf and its at most 4 siblings are digests. -/
import Derived.Test.YtlkgadgjcjpdcaaDoorSib
namespace Go.Proofs.YtlkgadgjcjpdcaaDoor
open Go.RowKit
set_option linter.unusedVariables false

/-- What climbTree hands back. -/
def Climbed (w : World) (r : Int) (s : Nat) (e : Ending) (w' : World) : Prop :=
  ∃ g x y, e = .returned (.pointer (some ⟨g, 0, none⟩)) ∧ Node w' g r (s : Int) x y ∧ Below w.heap.size w w'

/-- Where the loop stands. -/
structure ClimbAt (w : World) (ss : List Int) (i : Nat) (leaf : Int) (g k s : Nat) (t : Int) (w' : World) : Prop where
  node : ∃ x y, Node w' g t (s : Int) x y
  below : Below w.heap.size w w'
  rest : climbG pairZ (ss.drop k) s i t = climbG pairZ ss 1 i leaf
  pow : s = 2 ^ k
  bd : 0 ≤ t ∧ t < 991

theorem climb_bd : ∀ (ss : List Int) (s i : Nat) (t : Int), 0 ≤ t ∧ t < 991 → 0 ≤ climbG pairZ ss s i t ∧ climbG pairZ ss s i t < 991 := by
  intro ss
  induction ss with
  | nil => intro s i t h; exact h
  | cons r rs ih =>
    intro s i t h
    have e : climbG pairZ (r :: rs) s i t = climbG pairZ rs (2 * s) i (if i &&& s = 0 then pairZ t r else pairZ r t) := rfl
    rw [e]
    by_cases c : i &&& s = 0
    · rw [if_pos c]; exact ih _ _ _ (pairZ_bd _ _)
    · rw [if_neg c]; exact ih _ _ _ (pairZ_bd _ _)

set_option maxHeartbeats 4000000 in
set_option maxRecDepth 100000 in
theorem climb_any (leaf : Int) (i : Nat) (ss : List Int) (B : Option Addr) (c : Nat) (w : World) (hI : IntsAt w w.heap.size B ss) (hd : Digs ss) (hl0 : 0 ≤ leaf) (hl1 : leaf < 991) (hi : i ≤ 16) (h4 : ss.length ≤ 4) :
    Calls Tryd.prog 38 #[.int .i64 leaf, .int .i64 (i : Int), .slice B ss.length c] w (Climbed w (climbG pairZ ss 1 i leaf) (2 ^ ss.length)) := by
  have HI := Lib.hid hI
  have HD := Lib.hid hd
  obtain ⟨n, HN⟩ : ∃ n, Hid (ss.length = n) := ⟨_, rfl⟩
  rw [HN.out] at h4 ⊢
  clear hI hd
  go_enter Tryd.func38, Tryd.ntmps38
  go_wp2_with fail
  refine (known_any _ _ _).mono ?_
  rintro e w' ⟨rfl, rfl⟩
  go_wp2
  go_loopw [7, 15] (fun tr ix w' => ∃ (g k s : Nat) (t : Int), k ≤ n ∧ tr = .pointer (some ⟨g, 0, none⟩) ∧ ix = .int .i64 (k : Int) ∧ ClimbAt w ss i leaf g k s t w') (fun _ ix _ => n - (intOf ix).toNat)
  case atStart =>
    refine ⟨w.heap.size, 0, 1, leaf, by omega, rfl, rfl, ?_⟩
    exact ⟨⟨none, none, Blk.new w _ _⟩, (Below.refl _ _).alloc (Nat.le_refl _) _, rfl, rfl, hl0, hl1⟩
  case round =>
    obtain ⟨g, k, s, t, hk, rfl, rfl, hC⟩ := hrel
    have HC := Lib.hid hC
    obtain ⟨x, y, hn⟩ := hC.node
    obtain ⟨b0, b1⟩ := hC.bd
    clear hC
    by_cases hlt : k < n
    · have hkz : k < ss.length := by rw [HN.out]; exact hlt
      obtain ⟨b, o, rfl, hb, hcell⟩ := (HI.out.below HC.out.below (Nat.le_refl _)) (by omega)
      have hck := hcell k hkz
      obtain ⟨r0, r1⟩ := HD.out.at_ k hkz
      obtain ⟨r, HR⟩ : ∃ r, Hid (nth ss k = r) := ⟨_, rfl⟩
      rw [HR.out] at hck r0 r1
      have hs8 : s ≤ 8 := by
        rw [HC.out.pow]
        have : (2 : Nat) ^ k ≤ 2 ^ 3 := Nat.pow_le_pow_right (by omega) (by omega)
        omega
      have hs1 : 1 ≤ s := by rw [HC.out.pow]; exact Nat.pos_of_ne_zero (by simp)
      have c1 := hn.c1
      have HNO := Lib.hid hn
      have hgl : g < wr.heap.size := Blk.lt hn
      have hki : (k : Int) < (n : Int) := by omega
      obtain ⟨z, HZ⟩ : ∃ z : Nat, Hid (i &&& s = z) := ⟨_, rfl⟩
      have hbt : bits .and .i64 (i : Int) (s : Int) = (z : Int) := by rw [and_small i s (by omega) (by omega), HZ.out]
      have hdrop : ss.drop k = r :: ss.drop (k + 1) := by
        rw [List.drop_eq_getElem_cons hkz, ← HR.out, nth, List.getD_eq_getElem?_getD, List.getElem?_eq_getElem hkz]
        rfl
      have HREST : Hid (climbG pairZ (ss.drop (k + 1)) (2 * s) i (if z = 0 then pairZ t r else pairZ r t) = climbG pairZ ss 1 i leaf) := by
        show _ = _
        rw [← HC.out.rest, hdrop, ← HZ.out]
        rfl
      have HP : Hid (2 * s = 2 ^ (k + 1)) := by show _ = _; rw [Nat.pow_succ, ← HC.out.pow]; omega
      clear hn hcell hkz hdrop
      go_wp2_with fail
      refine (known_any _ _ _).mono ?_
      rintro e w' ⟨rfl, rfl⟩
      have hnA := HNO.out
      have HN1 : Hid (Node (wr.alloc (.cells #[.int .i64 r, .int .i64 (s : Int), .pointer none, .pointer none] 68)) g t (s : Int) x y) := Blk.alloc hnA _
      have HN2 : Hid (Node (wr.alloc (.cells #[.int .i64 r, .int .i64 (s : Int), .pointer none, .pointer none] 68)) wr.heap.size r (s : Int) none none) := Blk.new wr _ _
      have hbw : w.heap.size ≤ wr.heap.size := HC.out.below.size
      clear hnA
      by_cases hz : z = 0
      · subst hz
        have hbt0 : bits .and .i64 (i : Int) (s : Int) = 0 := hbt
        clear hbt
        go_wp2_with fail
        refine (pairT_any g wr.heap.size _ _ _ _ _ _ _ _ _ HN1.out HN2.out b0 b1 r0 r1 (by omega) (by omega) (by omega) (by omega)).mono ?_
        rintro e w3 ⟨g3, rfl, hn3, hg3, hb3⟩
        have HN3 := Lib.hid hn3
        have HB3 : Hid (Below w.heap.size w w3) := (HC.out.below.alloc hbw _).trans (hb3.mono (by simp; omega))
        clear hn3 hb3 hbt0
        go_wp2
        go_roundw
        case rel =>
          refine ⟨g3, k + 1, 2 * s, pairZ t r, by omega, rfl, by go_num, ?_, HB3.out, ?_, HP.out, pairZ_bd _ _⟩
          · refine ⟨some ⟨g, 0, none⟩, some ⟨wr.heap.size, 0, none⟩, ?_⟩
            have := HN3.out
            rw [show ((2 * s : Nat) : Int) = (s : Int) + (s : Int) from by omega]
            exact this
          · have := HREST.out
            simp only [if_true] at this
            exact this
        case measure => simp [intOf]; omega
      · have hzb : ((z : Int) == 0) = false := by simp; omega
        go_wp2_with fail
        refine (pairT_any wr.heap.size g _ _ _ _ _ _ _ _ _ HN2.out HN1.out r0 r1 b0 b1 (by omega) (by omega) (by omega) (by omega)).mono ?_
        rintro e w3 ⟨g3, rfl, hn3, hg3, hb3⟩
        have HN3 := Lib.hid hn3
        have HB3 : Hid (Below w.heap.size w w3) := (HC.out.below.alloc hbw _).trans (hb3.mono (by simp; omega))
        clear hn3 hb3 hbt hzb
        go_wp2
        go_roundw
        case rel =>
          refine ⟨g3, k + 1, 2 * s, pairZ r t, by omega, rfl, by go_num, ?_, HB3.out, ?_, HP.out, pairZ_bd _ _⟩
          · refine ⟨some ⟨wr.heap.size, 0, none⟩, some ⟨g, 0, none⟩, ?_⟩
            have := HN3.out
            rw [show ((2 * s : Nat) : Int) = (s : Int) + (s : Int) from by omega]
            exact this
          · have := HREST.out
            rw [if_neg hz] at this
            exact this
        case measure => simp [intOf]; omega
    · have hkn : k = n := by omega
      subst hkn
      have HT : Hid (t = climbG pairZ ss 1 i leaf) := by
        show _ = _
        rw [← HC.out.rest, List.drop_eq_nil_of_le (by rw [HN.out]; omega)]
        rfl
      have HNO := Lib.hid hn
      clear hn
      go_wp2
      go_ret
      refine ⟨g, x, y, rfl, ?_, HC.out.below⟩
      rw [← HT.out, ← HC.out.pow]
      exact HNO.out

end Go.Proofs.YtlkgadgjcjpdcaaDoor
