/- Contract of DrawBitsOf: at most 18 integers in memory of the call's own. Condition: the code's bytes lie in memory. -/
import Derived.Test.YtmepbogfdpmfaaaSpecRuns
import Derived.Test.YtmepbogfdpmfaaaDrawBits
import Derived.Test.YtmepbogfdpmfaaaExactKeep
namespace Go.Proofs.Ytmepbogfdpmfaaa
open Go.RowKit
set_option linter.unusedVariables false

/-- Where the reader stands and which integers were drawn so far. -/
structure DrawingI (w : World) (B g : Nat) (A : Option Addr) (len cap : Nat) (base : Nat) (X : Option Addr) (c : Nat) (zs : List Int) (p' : Nat) (w' : World) : Prop where
  own : OwnInts w' base X c zs
  rd : Rd w' B g A len cap p'
  below : Below B w w'
  size : base ≤ w'.heap.size
  far : g < base
theorem ownI_keep {w w' : World} {base : Nat} {A : Option Addr} {cap : Nat} {zs : List Int} (h : OwnInts w base A cap zs) {row : Option Nat} (hg : w.grownBy w' row) (hr : ∀ k, row = some k → k < base) : OwnInts w' base A cap zs := by
  refine World.ownsRow.kept h hg ?_
  rcases h.2 with ⟨hv, _⟩ | ⟨g, c, cur, hv, hb, _⟩
  · left; rw [hv]; rfl
  · right
    rw [hv]
    intro e
    have := hr g (by simpa [Value.ownBlock] using e.symm)
    omega
theorem DrawingI.pick {w : World} {B g : Nat} {A : Option Addr} {len cap base : Nat} {X : Option Addr} {c : Nat} {zs : List Int} {p' p2 : Nat} {w1 w2 : World} (h : DrawingI w B g A len cap base X c zs p' w1) (hR : Rd w2 B g A len cap p2) (hg : w1.grownBy w2 (some g)) : DrawingI w B g A len cap base X c zs p2 w2 :=
  ⟨ownI_keep h.own hg (fun k hk => by injection hk with hk; have := h.far; omega), hR, h.below.trans ((Below.refl B w1).grown hg (by have := h.rd.lt; have := h.rd.big; omega) (fun k hk => by injection hk with hk; have := h.rd.big; omega)), Nat.le_trans h.size hg.size, h.far⟩
theorem DrawingI.alloc {w : World} {B g : Nat} {A : Option Addr} {len cap base : Nat} {X : Option Addr} {c : Nat} {zs : List Int} {p' : Nat} {w1 : World} (h : DrawingI w B g A len cap base X c zs p' w1) (o : Obj) : DrawingI w B g A len cap base X c zs p' (w1.alloc o) :=
  ⟨h.own.alloc o, h.rd.alloc o, h.below.alloc (by have := h.rd.lt; have := h.rd.big; omega) o, by have := h.size; simp; omega, h.far⟩
theorem five_cells (w : World) (a b c d e : Int) (j : Nat) (hj : j < 5) : ∃ z, (w.alloc (.cells #[.int .i64 a, .int .i64 b, .int .i64 c, .int .i64 d, .int .i64 e] 3)).cell? ⟨w.heap.size, j, none⟩ = some (.int .i64 z) := by
  rw [cell_of_row _ w.heap.size j _ _ (0, 0) (heap_alloc_new w _)]
  have : j = 0 ∨ j = 1 ∨ j = 2 ∨ j = 3 ∨ j = 4 := by omega
  rcases this with rfl | rfl | rfl | rfl | rfl
  · exact ⟨a, rfl⟩
  · exact ⟨b, rfl⟩
  · exact ⟨c, rfl⟩
  · exact ⟨d, rfl⟩
  · exact ⟨e, rfl⟩

def IntsDrawn (w : World) (e : Ending) (w' : World) : Prop :=
  ∃ X c zs, e = .returned (.slice X zs.length c) ∧ zs.length ≤ 18 ∧ OwnInts w' w.heap.size X c zs ∧ Below w.heap.size w w'

set_option maxHeartbeats 4000000 in
set_option maxRecDepth 100000 in
theorem drawbitsof_any (A : Option Addr) (len cap : Nat) (w : World) (hI : In w A len cap) :
    Calls Try.prog 15 #[.slice A len cap] w (IntsDrawn w) := by
  have HI := Lib.hid hI
  clear hI
  go_enter Try.func15, Try.ntmps15
  go_wp2_with fail
  refine (open_any A len cap _ HI.out).mono ?_
  rintro e w1 ⟨len', cap', rfl, hR1, hb1⟩
  have HR1 := Lib.hid hR1
  have HB1 := Lib.hid hb1
  clear hR1 hb1
  go_wp2_with fail
  refine (bitsdraw_any HR1.out (by omega)).mono ?_
  rintro e w2 ⟨X, c, bs, p', rfl, hl, hp', hD⟩
  have HD := Lib.hid hD
  clear hD
  go_wp2_with fail
  refine (sbitsRuns_any X c bs _ HD.out.own.ints (by unfold maxLen; omega)).mono ?_
  rintro e w3 ⟨X3, c3, rfl, hown3, hb3⟩
  have hz17 := runsOr_short bs
  obtain ⟨zs, HZ⟩ : ∃ zs, Hid (runsOr bs = zs) := ⟨_, rfl⟩
  rw [HZ.out] at hown3 hz17 ⊢
  have HD3 : Hid (DrawingI w w.heap.size w.heap.size A len' cap' w2.heap.size X3 c3 zs p' w3) :=
    ⟨hown3, HD.out.rd.grown (grown_of_below hb3 none) (fun k hk => by cases hk), (HB1.out.trans HD.out.below).trans (hb3.mono (by have := (HB1.out.trans HD.out.below).size; omega)), hb3.size, HD.out.rd.lt⟩
  have hw2 : w.heap.size ≤ w2.heap.size := (HB1.out.trans HD.out.below).size
  clear hown3 hb3
  obtain ⟨L, HL⟩ : ∃ L, Hid (zs.length = L) := ⟨_, rfl⟩
  rw [HL.out] at hz17 ⊢
  go_wp2_with fail
  refine (pick_any 10 HD3.out.rd (by omega) (by omega) (by omega)).mono ?_
  rintro e w4 ⟨t, ht, rfl, hR4, hg4, hz4⟩
  have HD4 := Lib.hid (HD3.out.pick hR4 hg4)
  clear hR4 hg4 hz4 HD3
  by_cases ht0 : t = 0
  · subst ht0
    by_cases hL0 : 0 < L
    · go_wp2_with fail
      refine (pick_any (L : Int) HD4.out.rd (by omega) (by omega) (by omega)).mono ?_
      rintro e w5 ⟨j, hj, rfl, hR5, hg5, hz5⟩
      have HD5 := Lib.hid (HD4.out.pick hR5 hg5)
      clear hR5 hg5 hz5 HD4
      go_wp2_with fail
      refine (pick_any 4 HD5.out.rd (by omega) (by omega) (by omega)).mono ?_
      rintro e w6 ⟨p4, hp4, rfl, hR6, hg6, hz6⟩
      have HD6 := Lib.hid (HD5.out.pick hR6 hg6)
      clear hR6 hg6 hz6 HD5
      go_wp2_with fail
      refine (pick_any 5 (HD6.out.alloc _).rd (by omega) (by omega) (by omega)).mono ?_
      rintro e w7 ⟨p5, hp5, rfl, hR7, hg7, hz7⟩
      have hD7 := (HD6.out.alloc (.cells #[.int .i64 0, .int .i64 (-1), .int .i64 16, .int .i64 17, .int .i64 (p4 : Int)] 3)).pick hR7 hg7
      obtain ⟨d, hd⟩ := five_cells w6 0 (-1) 16 17 (p4 : Int) p5 (by omega)
      have hg6s : w.heap.size < w6.heap.size := HD6.out.rd.lt
      have hc7 : w7.cell? ⟨w6.heap.size, p5, none⟩ = some (.int .i64 d) := by
        refine (World.cell?_of_block (a := ⟨w6.heap.size, p5, none⟩) (hg7.block w6.heap.size (by simp) (fun e => ?_))).trans hd
        injection e with e
        omega
      have HD7 := Lib.hid hD7
      have hbne : w2.heap.size ≤ w6.heap.size := HD6.out.size
      clear hR7 hg7 hz7 hD7 hd
      have hjz : j < zs.length := by rw [HL.out]; omega
      obtain ⟨b, rfl⟩ : ∃ b, X3 = some ⟨b, 0, none⟩ := by
        rcases own_form HD7.out.own with h | h
        · subst h
          obtain ⟨b, o, e, _⟩ := HD7.out.own.ints (by omega)
          cases e
        · exact h
      obtain ⟨hcx, hfx⟩ := own_cell HD7.out.own j hjz
      have hst := own_stored HD7.out.own j d
      have HST := Lib.hid hst
      have hbl := own_lt HD7.out.own b rfl
      have hji : (j : Int) < (L : Int) := by omega
      have hj0 : (0 : Int) ≤ (j : Int) := by omega
      have hp50 : (0 : Int) ≤ (p5 : Int) := by omega
      clear hjz hst
      go_wp2
      go_ret
      exact ⟨_, c3, zs.set j d, by rw [List.length_set, HL.out]; rfl, by rw [List.length_set, HL.out]; omega, HST.out.1.base_le hw2, HD7.out.below.trans ((Below.refl _ _).grown HST.out.2 (by have := HD7.out.size; omega) (fun k hk => by injection hk with hk; omega))⟩
    · have hL00 : L = 0 := by omega
      subst hL00
      go_wp2
      go_ret
      exact ⟨X3, c3, zs, by rw [HL.out]; rfl, by rw [HL.out]; omega, HD4.out.own.base_le hw2, HD4.out.below⟩
  · have ht0' : ((t : Int) == 0) = false := by simp; omega
    by_cases ht1 : t = 1
    · subst ht1
      go_wp2_with fail
      refine (pick_any 9 HD4.out.rd (by omega) (by omega) (by omega)).mono ?_
      rintro e w5 ⟨d, hd, rfl, hR5, hg5, hz5⟩
      have HD5 := Lib.hid (HD4.out.pick hR5 hg5)
      clear hR5 hg5 hz5 HD4
      have hs5 := HD5.out.size
      go_wp2_with (at_builtin; refine wpList_app_ints rfl (.tmp 32) (.tmp 35) rfl _ w2.heap.size X3 c3 zs (by rw [HL.out]; rfl) _ _ [(d : Int)] rfl (HD5.out.own.alloc _) (one_new _ _) (by rw [HL.out]; simp; omega) (by simp; omega) (by simp) ?_; intro v w6 hA)
      obtain ⟨⟨X', c', rfl, hown6⟩, hg6, hbel6⟩ := hA
      have HO6 := Lib.hid hown6
      have HB6 : Hid (Below w.heap.size w w6) := (HD5.out.alloc _).below.trans (hbel6.mono hw2)
      clear hown6 hg6 hbel6
      go_wp2
      go_ret
      exact ⟨X', c', _, rfl, by rw [List.length_append, HL.out]; simp; omega, HO6.out.base_le hw2, HB6.out⟩
    · have ht1' : ((t : Int) == 1) = false := by simp; omega
      go_wp2
      go_ret
      exact ⟨X3, c3, zs, by rw [HL.out]; rfl, by rw [HL.out]; omega, HD4.out.own.base_le hw2, HD4.out.below⟩

end Go.Proofs.Ytmepbogfdpmfaaa
