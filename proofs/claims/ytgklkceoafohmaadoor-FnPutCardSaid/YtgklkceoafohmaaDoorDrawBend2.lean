/- Contract of l91Bend, with what is kept told whole: a copy of a proof, changed in one of several ways, in memory of the call's own; the reader moves on. Condition: the reader's place is at most 90000; the proof lies in memory. -/
import Derived.Test.YtgklkceoafohmaaDoorBaseC
import Derived.Test.YtgklkceoafohmaaDoorDrawBlocks
import Derived.Test.YtgklkceoafohmaaDoorBaseG
namespace Go.Proofs.YtgklkceoafohmaaDoor
open Go.RowKit
set_option linter.unusedVariables false

/-- A reader and a list of the call's own. -/
structure ReadingG (w : World) (B g : Nat) (A : Option Addr) (len cap : Nat) (base : Nat) (X : Option Addr) (c : Nat) (zs : List Int) (p' : Nat) (w' : World) : Prop where
  own : OwnInts w' base X c zs
  rd : Rd w' B g A len cap p'
  below : Below B w w'
  size : base ≤ w'.heap.size
  far : g < base
  top : w.heap.size ≤ base
  grown : w.grownBy w' (some g)
theorem ReadingG.pick {w : World} {B g : Nat} {A : Option Addr} {len cap base : Nat} {X : Option Addr} {c : Nat} {zs : List Int} {p' p2 : Nat} {w1 w2 : World} (h : ReadingG w B g A len cap base X c zs p' w1) (hR : Rd w2 B g A len cap p2) (hg : w1.grownBy w2 (some g)) : ReadingG w B g A len cap base X c zs p2 w2 :=
  ⟨h.own.keep hg (fun k hk => by injection hk with hk; have := h.far; omega), hR, h.below.trans ((Below.refl B w1).grown hg (by have := h.rd.lt; have := h.rd.big; omega) (fun k hk => by injection hk with hk; have := h.rd.big; omega)), Nat.le_trans h.size hg.size, h.far, h.top, World.grownBy.trans h.grown hg⟩
def BentG (w : World) (B g : Nat) (A : Option Addr) (len cap p n : Nat) (e : Ending) (w' : World) : Prop :=
  ∃ X c zs p', e = .returned (.slice X (List.length zs) c) ∧ zs.length ≤ n + 1 ∧ p' ≤ p + 10 ∧ ReadingG w B g A len cap w.heap.size X c zs p' w'

set_option maxHeartbeats 4000000 in
set_option maxRecDepth 100000 in
theorem bendG_any {B g len cap p : Nat} {A : Option Addr} {w : World} (hR : Rd w B g A len cap p) (hp : p ≤ 90000) (Y : Option Addr) (cy : Nat) (ys : List Int) (hI : IntsAt w w.heap.size Y ys) (hn : ys.length ≤ 100) (hY : Y = none → cy = 0) :
    Calls Tryd.prog 35 #[.pointer (some ⟨g, 0, none⟩), .slice Y ys.length cy] w (BentG w B g A len cap p ys.length) := by
  have HR := Lib.hid hR
  have HI := Lib.hid hI
  have HY := Lib.hid hY
  obtain ⟨hBw, hgw⟩ := hR.base
  obtain ⟨n, HN⟩ : ∃ n, Hid (ys.length = n) := ⟨_, rfl⟩
  rw [HN.out] at hn ⊢
  clear hR hI hY
  go_enter Tryd.func35, Tryd.ntmps35
  go_wp2_with (at_builtin; refine wpList_app_ints rfl (.tmp 6) (.tmp 7) rfl _ w.heap.size _ _ [] rfl Y cy ys (by rw [HN.out]; rfl) (OwnInts.new w) (HI.out.allocS _) (by rw [HN.out]; simp; omega) (by simp) HY.out ?_; intro v w1 hA; rw [List.nil_append] at hA; obtain ⟨⟨A1, c1, rfl, hown1⟩, hg1, hb1⟩ := hA; have HO1 := Lib.hid hown1; have HB1 : Hid (Below w.heap.size w w1) := ((Below.refl _ w).alloc (Nat.le_refl _) _).trans hb1; clear hown1 hg1 hb1; rw [HN.out])
  have HD1 : Hid (ReadingG w B g A len cap w.heap.size A1 c1 ys p w1) := ⟨HO1.out, HR.out.belowS HB1.out, HB1.out.mono hBw, HB1.out.size, hgw, Nat.le_refl _, grown_of_below HB1.out _⟩
  refine (pick_any 4 HD1.out.rd (by omega) (by omega) (by omega)).mono ?_
  rintro e w2 ⟨t, ht, rfl, hR2, hg2, hz2⟩
  have HD2 := Lib.hid (HD1.out.pick hR2 hg2)
  clear hR2 hg2 hz2
  have hz2 : w.heap.size ≤ w2.heap.size := HD2.out.size
  by_cases ht0 : t = 0
  · subst ht0
    go_wp2_with fail
    refine (drawdig_any HD2.out.rd (by omega)).mono ?_
    rintro e w3 ⟨d, p3, hd1, hd2, hp3, rfl, hR3, hb3, hg3⟩
    have HD3 := Lib.hid (HD2.out.pick hR3 hg3)
    clear hR3 hg3 hb3
    have hz3 : w.heap.size ≤ w3.heap.size := HD3.out.size
    obtain ⟨us, HU⟩ : ∃ us, Hid (ys ++ [d] = us) := ⟨_, rfl⟩
    have HUL : Hid (us.length = n + 1) := by show _ = _; rw [← HU.out, List.length_append, HN.out]; rfl
    go_wp2_with (at_builtin; refine wpList_app_ints rfl (.tmp 24) (.tmp 27) rfl _ w.heap.size A1 c1 ys (by rw [HN.out]; rfl) _ _ [d] rfl (HD3.out.own.alloc _) (one_new _ _) (by rw [HN.out]; simp; omega) (by simp; omega) (by simp) ?_; intro v w4 hA; rw [HU.out] at hA; have HA := Lib.hid hA; obtain ⟨⟨A4, c4, rfl, hown4⟩, hg4, hb4⟩ := hA; have HO4 := Lib.hid hown4; clear hown4 hg4 hb4)
    go_ret
    have hD := HD3.out
    refine ⟨A4, c4, us, p3, rfl, by rw [HUL.out]; omega, by omega, HO4.out, ?_, ?_, ?_, hD.far, hD.top, grown_far (World.grownBy.trans hD.grown (grown_of_alloc w3 _ _)) HA.out.grown (fun k hk => hD.own.far (n := ys.length) k hk)⟩
    · exact (hD.rd.alloc _).grown HA.out.grown (fun k hk => by have h1 := hD.own.far (n := ys.length) k hk; have h2 := hD.far; exact ⟨by omega, by omega⟩)
    · exact (hD.below.alloc (by omega) _).trans (HA.out.below.mono hBw)
    · have := HA.out.grown.size; simp at this; omega
  · have ht0' : ((t : Int) == 0) = false := by rw [beq_eq_false_iff_ne]; omega
    by_cases hn0 : n = 0
    · subst hn0
      by_cases ht1 : t = 1
      · subst ht1
        go_wp2
        go_ret
        exact ⟨A1, c1, ys, _, by rw [HN.out]; rfl, by rw [HN.out]; omega, by omega, HD2.out⟩
      · have ht1' : ((t : Int) == 1) = false := by rw [beq_eq_false_iff_ne]; omega
        go_wp2
        go_ret
        exact ⟨A1, c1, ys, _, by rw [HN.out]; rfl, by rw [HN.out]; omega, by omega, HD2.out⟩
    · obtain ⟨b1, hA1⟩ := HD2.out.own.some_ (by rw [HN.out]; omega)
      subst hA1
      have hnp : (0 : Int) < (n : Int) := by omega
      have hnp' : 0 < n := by omega
      by_cases ht1 : t = 1
      · subst ht1
        have hcl := HD2.out.own.le
        rw [HN.out] at hcl
        have hni : (n : Int) - 1 ≤ (c1 : Int) := by omega
        have hni0 : (0 : Int) ≤ (n : Int) - 1 := by omega
        have hc63 := hcl.2
        unfold maxLen at hc63
        go_wp2
        go_ret
        have hD := HD2.out
        have hl : (ys.take (n - 1)).length = n - 1 := by rw [List.length_take, HN.out]; omega
        exact ⟨_, c1, ys.take (n - 1), _, by rw [hl]; rfl, by rw [hl]; omega, by omega, hD.own.cut (n - 1) (by rw [HN.out]; omega), hD.rd, hD.below, hD.size, hD.far, hD.top, hD.grown⟩
      · have ht1' : ((t : Int) == 1) = false := by rw [beq_eq_false_iff_ne]; omega
        go_wp2_with fail
        refine (pick_any n HD2.out.rd (by omega) (by omega) (by omega)).mono ?_
        rintro e w3 ⟨j, hj, rfl, hR3, hg3, hz3⟩
        have HD3 := Lib.hid (HD2.out.pick hR3 hg3)
        clear hR3 hg3 hz3
        go_wp2_with fail
        refine (drawdig_any HD3.out.rd (by omega)).mono ?_
        rintro e w4 ⟨d, p4, hd1, hd2, hp4, rfl, hR4, hb4, hg4⟩
        have HD4 := Lib.hid (HD3.out.pick hR4 hg4)
        clear hR4 hg4 hb4
        have hjz : j < ys.length := by rw [HN.out]; omega
        have hcell : w4.cell? ⟨b1, j, none⟩ = some (.int .i64 (nth ys j)) := by
          have h1 := (HD4.out.own.ints.lt (by omega)).2 j hjz
          rw [Nat.zero_add] at h1
          exact h1
        have hfro : w4.frozen? ⟨b1, j, none⟩ = false := World.ownsRow.frozenAt HD4.out.own j
        have hji : (j : Int) < (n : Int) := by omega
        clear hjz
        go_wp2
        go_ret
        have hD := HD4.out
        have hbb := hD.own.far (n := ys.length) b1 rfl
        have hfar := hD.far
        refine ⟨_, c1, ys.set j d, p4, by rw [List.length_set, HN.out]; rfl, by rw [List.length_set, HN.out]; omega, by omega, hD.own.stored j d, ?_, ?_, ?_, hD.far, hD.top, grown_far hD.grown (grown_set _ b1 j _) (fun k hk => by injection hk with hk; omega)⟩
        · exact hD.rd.setOther (q := ⟨b1, j, none⟩) (by show B ≤ b1; omega) (by show b1 ≠ g; omega) _
        · exact hD.below.setCell (p := ⟨b1, j, none⟩) (by show B ≤ b1; omega) _
        · have := hD.size; simp [World.setCell]; exact this

end Go.Proofs.YtgklkceoafohmaaDoor
