/- The walk of FnJournalLost: it returns true and changes nothing that was there. Condition: the codes' bytes lie in memory. -/
import Derived.Test.YtofekmdmooegmaaDrawJ
namespace Go.Proofs.Ytofekmdmooegmaa
open Go.RowKit Go.Conc
set_option linter.unusedVariables false

set_option maxHeartbeats 8000000 in
set_option maxRecDepth 100000 in
theorem walkJournalLost (A : Option Addr) (len cap : Nat) (w : World) (hI : In w A len cap) :
    Calls Try.prog 8 #[.slice A len cap] w fun e w' => e = .returned (.bool true) ∧ Below w.heap.size w w' := by
  have hm := hI.len_le
  unfold maxLen at hm
  have HI := Lib.hid hI
  clear hI
  by_cases hlen : len ≤ 1048576
  · go_enter Try.func8, Try.ntmps8
    go_wp2_with fail
    refine (drawJAdd_any A len cap _ HI.out).mono ?_
    rintro e w1 ⟨X, c, rs, s, r, rfl, ho, hf, hl, hs0, hs1, hrt, hri0, hri1, hb1⟩
    obtain ⟨ri, rt⟩ := r
    have hrt2 : rt.size ≤ 10 := hrt
    have hri2 : -1 ≤ ri := hri0
    have hri3 : ri ≤ 16 := hri1
    have hrm : (⟨ri, rt⟩ : RD).t.size ≤ maxLen := by show rt.size ≤ maxLen; unfold maxLen; omega
    have HRM := Lib.hid hrm
    have PF1 := Lib.hid ho
    have HF := Lib.hid hf
    have HB1 := Lib.hid hb1
    clear ho hf hb1 hrt hri0 hri1 hrm
    obtain ⟨nb, HN⟩ : ∃ v, Hid (rs.length = v) := ⟨_, rfl⟩
    obtain ⟨obs, HO⟩ : ∃ v, Hid (addR rs s ⟨ri, rt⟩ = v) := ⟨_, rfl⟩
    obtain ⟨os, HS⟩ : ∃ v, Hid (addS rs s ⟨ri, rt⟩ = v) := ⟨_, rfl⟩
    obtain ⟨ba, HA⟩ : ∃ v, Hid (addB rs s ⟨ri, rt⟩ = v) := ⟨_, rfl⟩
    obtain ⟨mb, HM⟩ : ∃ v, Hid (obs.length = v) := ⟨_, rfl⟩
    rw [HN.out] at hl ⊢
    obtain ⟨w1a, HW1a⟩ : ∃ Q0, Hid (w1.alloc (.cells #[.slice X nb c, .int .i64 s] 25) = Q0) := ⟨_, rfl⟩
    have hb1a : Below w1.heap.size w1 w1a := by rw [← HW1a.out]; exact (Below.refl _ _).alloc (Nat.le_refl _) _
    have PF1a := Lib.hid (PF1.out.below hb1a)
    have HB1a : Hid (Below w.heap.size w w1a) := HB1.out.trans (hb1a.mono HB1.out.size)
    clear hb1a
    have LF1a : Hid (Blk w1a w1.heap.size 25 #[.slice X nb c, .int .i64 s]) := by rw [← HW1a.out]; exact Blk.new w1 _ _
    obtain ⟨w2, HW2⟩ : ∃ Q0, Hid (w1a.alloc (.cells #[.int .i64 ri, .string rt] 27) = Q0) := ⟨_, rfl⟩
    have hb2 : Below w1a.heap.size w1a w2 := by rw [← HW2.out]; exact (Below.refl _ _).alloc (Nat.le_refl _) _
    have PF2 := Lib.hid (PF1a.out.below hb2)
    have HB2 : Hid (Below w.heap.size w w2) := HB1a.out.trans (hb2.mono HB1a.out.size)
    have LF2 := Lib.hid (LF1a.out.below hb2 LF1a.out.lt)
    clear hb2
    have LR2 : Hid (Blk w2 w1a.heap.size 27 #[.int .i64 ri, .string rt]) := by rw [← HW2.out]; exact Blk.new w1a _ _
    have hz1a : w1a.heap.size = w1.heap.size + 1 := by rw [← HW1a.out]; simp
    rw [hz1a] at LR2
    go_wp2_with fail
    rw [HW1a.out, HW2.out]
    have CI := jadd_any X c s rs ⟨ri, rt⟩ w2 (own_jat PF2.out HF.out) HRM.out
    rw [HN.out, HO.out, HS.out, HA.out] at CI
    refine CI.mono ?_
    rintro e w3 ⟨A3, c3, rfl, ho3, hf3, hb3⟩
    rw [HM.out]
    have PO3 := Lib.hid ho3
    have HFO := Lib.hid hf3
    clear ho3 hf3 CI hz1a
    have PF3 := Lib.hid (PF2.out.below hb3)
    have HB3 : Hid (Below w.heap.size w w3) := HB2.out.trans (hb3.mono HB2.out.size)
    have LF3 := Lib.hid (LF2.out.below hb3 LF2.out.lt)
    have LR3 := Lib.hid (LR2.out.below hb3 LR2.out.lt)
    clear hb3
    have hzLF3 := LF3.out.lt
    have hzLR3 := LR3.out.lt
    obtain ⟨w4, HW4⟩ : ∃ Q0, Hid (w3.alloc (.cells #[.slice A3 mb c3, .int .i64 os] 25) = Q0) := ⟨_, rfl⟩
    have hb4 : Below w3.heap.size w3 w4 := by rw [← HW4.out]; exact (Below.refl _ _).alloc (Nat.le_refl _) _
    have PF4 := Lib.hid (PF3.out.below hb4)
    have HB4 : Hid (Below w.heap.size w w4) := HB3.out.trans (hb4.mono HB3.out.size)
    have LF4 := Lib.hid (LF3.out.below hb4 LF3.out.lt)
    have LR4 := Lib.hid (LR3.out.below hb4 LR3.out.lt)
    have PO4 := Lib.hid (PO3.out.below hb4)
    clear hb4
    have LO4 : Hid (Blk w4 w3.heap.size 25 #[.slice A3 mb c3, .int .i64 os]) := by rw [← HW4.out]; exact Blk.new w3 _ _
    obtain ⟨f0, f1⟩ := jr_cells LF3.out
    obtain ⟨r0, r1⟩ := jr_cells LR3.out
    go_wp2_with fail
    rw [HW4.out]
    have CI := sjadd_any X c s rs ⟨ri, rt⟩ w4 (own_jat PF4.out HF.out) HRM.out
    rw [HN.out, HO.out, HS.out, HA.out] at CI
    refine CI.mono ?_
    rintro e w5 ⟨A5, c5, rfl, ho5, hf5, hb5⟩
    rw [HM.out]
    have PW5 := Lib.hid ho5
    clear ho5 hf5 CI f0 f1 r0 r1
    clear hzLF3
    clear hzLR3
    have PF5 := Lib.hid (PF4.out.below hb5)
    have HB5 : Hid (Below w.heap.size w w5) := HB4.out.trans (hb5.mono HB4.out.size)
    have LF5 := Lib.hid (LF4.out.below hb5 LF4.out.lt)
    have LR5 := Lib.hid (LR4.out.below hb5 LR4.out.lt)
    have PO5 := Lib.hid (PO4.out.below hb5)
    have LO5 := Lib.hid (LO4.out.below hb5 LO4.out.lt)
    clear hb5
    have hzLF5 := LF5.out.lt
    have hzLR5 := LR5.out.lt
    have hzLO5 := LO5.out.lt
    obtain ⟨w6, HW6⟩ : ∃ Q0, Hid (w5.alloc (.cells #[.slice A5 mb c5, .int .i64 os] 25) = Q0) := ⟨_, rfl⟩
    have hb6 : Below w5.heap.size w5 w6 := by rw [← HW6.out]; exact (Below.refl _ _).alloc (Nat.le_refl _) _
    have PF6 := Lib.hid (PF5.out.below hb6)
    have HB6 : Hid (Below w.heap.size w w6) := HB5.out.trans (hb6.mono HB5.out.size)
    have LF6 := Lib.hid (LF5.out.below hb6 LF5.out.lt)
    have LR6 := Lib.hid (LR5.out.below hb6 LR5.out.lt)
    have PO6 := Lib.hid (PO5.out.below hb6)
    have LO6 := Lib.hid (LO5.out.below hb6 LO5.out.lt)
    have PW6 := Lib.hid (PW5.out.below hb6)
    clear hb6
    have LW6 : Hid (Blk w6 w5.heap.size 25 #[.slice A5 mb c5, .int .i64 os]) := by rw [← HW6.out]; exact Blk.new w5 _ _
    obtain ⟨f0, f1⟩ := jr_cells LF5.out
    obtain ⟨r0, r1⟩ := jr_cells LR5.out
    obtain ⟨o0, o1⟩ := jr_cells LO5.out
    have hne : (ba != ba) = false := by simp
    have heq : (ba == ba) = true := by simp
    go_wp2_with fail
    rw [HW6.out]
    clear f0 f1 r0 r1 o0 o1
    clear hzLF5
    clear hzLR5
    clear hzLO5
    refine (sameJ_any A3 c3 A5 c5 obs os w6 (own_jat PO6.out HFO.out) (own_jat PW6.out HFO.out) HM.out).mono ?_
    rintro e w7 ⟨rfl, hb7⟩
    have PF7 := Lib.hid (PF6.out.below hb7)
    have HB7 : Hid (Below w.heap.size w w7) := HB6.out.trans (hb7.mono HB6.out.size)
    have LF7 := Lib.hid (LF6.out.below hb7 LF6.out.lt)
    have LR7 := Lib.hid (LR6.out.below hb7 LR6.out.lt)
    have PO7 := Lib.hid (PO6.out.below hb7)
    have LO7 := Lib.hid (LO6.out.below hb7 LO6.out.lt)
    have PW7 := Lib.hid (PW6.out.below hb7)
    have LW7 := Lib.hid (LW6.out.below hb7 LW6.out.lt)
    clear hb7
    cases ba with
    | false =>
      obtain ⟨o0, o1⟩ := jr_cells LO7.out
      obtain ⟨q0, q1⟩ := jr_cells LW7.out
      go_wp2_with fail
      refine (sameJ_any A3 c3 A5 c5 obs os w7 (own_jat PO7.out HFO.out) (own_jat PW7.out HFO.out) HM.out).mono ?_
      rintro e w8 ⟨rfl, hb8⟩
      have PF8 := Lib.hid (PF7.out.below hb8)
      have HB8 : Hid (Below w.heap.size w w8) := HB7.out.trans (hb8.mono HB7.out.size)
      have LF8 := Lib.hid (LF7.out.below hb8 LF7.out.lt)
      have LR8 := Lib.hid (LR7.out.below hb8 LR7.out.lt)
      have PO8 := Lib.hid (PO7.out.below hb8)
      have LO8 := Lib.hid (LO7.out.below hb8 LO7.out.lt)
      have PW8 := Lib.hid (PW7.out.below hb8)
      have LW8 := Lib.hid (LW7.out.below hb8 LW7.out.lt)
      clear hb8
      go_wp2
      go_ret
      exact ⟨rfl, HB8.out⟩
    | true =>
      obtain ⟨hok, hrc, hlt⟩ := (addB_iff _ _ _).1 HA.out
      obtain ⟨-, hs2, hs3, -⟩ := (jokB_iff _ _).1 hok
      rw [HN.out] at hlt hs3
      have ho := HO.out
      have hso := HS.out
      unfold addR at ho
      unfold addS at hso
      rw [if_pos ⟨hok, hrc⟩, HN.out, if_pos hlt] at ho
      rw [if_pos ⟨hok, hrc⟩] at hso
      subst hso
      have hmb : mb = nb + 1 := by rw [← HM.out, ← ho, List.length_append, HN.out]; rfl
      have hok2 : jokB obs s = true := by
        rw [← ho]
        refine (jokB_iff _ _).2 ⟨by rw [List.length_append, HN.out]; show nb + 1 ≤ 20; omega, hs2, by rw [List.length_append, HN.out]; show s ≤ ((nb + 1 : Nat) : Int); omega, allB_snoc ((jokB_iff _ _).1 hok).2.2.2 hrc⟩
      obtain ⟨sn, hsn⟩ : ∃ v : Nat, s = (v : Int) := ⟨s.toNat, by omega⟩
      subst hsn
      have HK : Hid (keepN obs (sn : Int) 0 = sn) := by show _ = _; unfold keepN; rw [HM.out]; omega
      have HCR : Hid (crashR obs (sn : Int) 0 = obs.take sn) := by show _ = _; unfold crashR; rw [if_pos ⟨hok2, by omega⟩, HK.out]
      have HCS : Hid (crashS obs (sn : Int) 0 = (sn : Int)) := by show _ = _; unfold crashS; rw [if_pos ⟨hok2, by omega⟩, HK.out]
      have HTL : Hid ((obs.take sn).length = sn) := by show _ = _; rw [List.length_take, HM.out]; omega
      have CC := jcrash_any A3 c3 (sn : Int) 0 obs w7 (own_jat PO7.out HFO.out)
      rw [HM.out, HCR.out, HCS.out] at CC
      have HCC := Lib.hid CC
      clear hok hrc hlt ho hok2 CC hmb
      obtain ⟨o0, o1⟩ := jr_cells LO7.out
      go_wp2_with fail
      refine HCC.out.mono ?_
      rintro e w8 ⟨A9, c9, rfl, -, -, hb8⟩
      rw [HTL.out]
      clear o0 o1
      have PF8 := Lib.hid (PF7.out.below hb8)
      have HB8 : Hid (Below w.heap.size w w8) := HB7.out.trans (hb8.mono HB7.out.size)
      have LF8 := Lib.hid (LF7.out.below hb8 LF7.out.lt)
      have LR8 := Lib.hid (LR7.out.below hb8 LR7.out.lt)
      have PO8 := Lib.hid (PO7.out.below hb8)
      have LO8 := Lib.hid (LO7.out.below hb8 LO7.out.lt)
      have PW8 := Lib.hid (PW7.out.below hb8)
      have LW8 := Lib.hid (LW7.out.below hb8 LW7.out.lt)
      clear hb8
      have hzLF8 := LF8.out.lt
      have hzLR8 := LR8.out.lt
      have hzLO8 := LO8.out.lt
      have hzLW8 := LW8.out.lt
      obtain ⟨f0, f1⟩ := jr_cells LF8.out
      have hee : ((sn : Int) == (sn : Int)) = true := by simp
      have HB9 : Hid (Below w.heap.size w (w8.alloc (.cells #[.slice A9 sn c9, .int .i64 (sn : Int)] 25))) := HB8.out.alloc HB8.out.size _
      go_wp2
      go_ret
      exact ⟨rfl, HB9.out⟩
  · have h9 : 1048576 < len := by omega
    clear hlen
    go_enter Try.func8, Try.ntmps8
    go_wp2
    go_ret
    exact ⟨rfl, Below.refl _ _⟩

end Go.Proofs.Ytofekmdmooegmaa
