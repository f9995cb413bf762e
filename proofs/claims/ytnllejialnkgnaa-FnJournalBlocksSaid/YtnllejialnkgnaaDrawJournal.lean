/- Contract of l91Journal where more is drawn behind it: a journal of at most thirty records in memory of the call's own; the reader moves on. Conditions: the reader's place is at most 80000; the code's bytes lie in memory. -/
import Derived.Test.YtnllejialnkgnaaSameJ
import Derived.Deep.CutBlock
namespace Go.Proofs.Ytnllejialnkgnaa
open Go.RowKit Go.Conc
set_option linter.unusedVariables false

/-- Where the draw stands: the result's block, the reader, the journal's block. -/
structure Jn (w : World) (B g : Nat) (A : Option Addr) (len cap q gj : Nat) (X : Option Addr) (c n : Nat) (rs : List RD) (s : Int) (wx : World) : Prop where
  rd : Rd wx B g A len cap q
  grown : w.grownBy wx (some g)
  kr : Blk wx w.heap.size 25 #[.slice none 0 0, .int .i64 0]
  kj : Blk wx gj 25 #[.slice X n c, .int .i64 s]
  own : OwnRow RK wx (w.heap.size + 1) X c rs
  fit : FitR rs
  len_ : rs.length = n
  few : n ≤ 31
  s0 : -1 ≤ s
  s1 : s ≤ 30
  big : w.heap.size + 1 ≤ gj
section
variable {w w1 w2 : World} {B g len cap q q' gj c n : Nat} {A X : Option Addr} {rs : List RD} {s : Int}
theorem Jn.pick (h : Jn w B g A len cap q gj X c n rs s w1) (hgl : g < w.heap.size) (hR : Rd w2 B g A len cap q') (hg : w1.grownBy w2 (some g)) : Jn w B g A len cap q' gj X c n rs s w2 :=
  ⟨hR, World.grownBy.trans h.grown hg, h.kr.grown hg (fun e => by injection e with e; omega), h.kj.grown hg (fun e => by injection e with e; have := h.big; omega), h.own.keep hg (fun k hk => by injection hk with hk; omega), h.fit, h.len_, h.few, h.s0, h.s1, h.big⟩
theorem Jn.then_ (h : Jn w B g A len cap q gj X c n rs s w1) (hb : Below w1.heap.size w1 w2) : Jn w B g A len cap q gj X c n rs s w2 :=
  ⟨h.rd.grown (grown_of_below hb none) (fun k hk => by cases hk), World.grownBy.trans h.grown (grown_of_below hb _), h.kr.below hb h.kr.lt, h.kj.below hb h.kj.lt, h.own.below hb, h.fit, h.len_, h.few, h.s0, h.s1, h.big⟩
theorem Jn.drew (h : Jn w B g A len cap q gj X c n rs s w1) : Jn w B g A len cap q gj X c n rs s w1.drew :=
  ⟨h.rd.drew, World.grownBy.trans h.grown ⟨rfl, rfl, rfl, Nat.le_refl _, fun _ _ _ => rfl⟩, h.kr, h.kj, h.own, h.fit, h.len_, h.few, h.s0, h.s1, h.big⟩
theorem Jn.jat (h : Jn w B g A len cap q gj X c n rs s w1) : JAt w1 w1.heap.size X c rs := own_jat h.own h.fit
/-- The journal's block is written. -/
theorem Jn.set (h : Jn w B g A len cap q gj X c n rs s w1) (hgl : g < w.heap.size) (hB : B ≤ g) {X' : Option Addr} {c' n' : Nat} {rs' : List RD} {s' : Int} (ho : OwnRow RK w1 (w.heap.size + 1) X' c' rs') (hf : FitR rs') (hl : rs'.length = n') (hw : n' ≤ 31) (h0 : -1 ≤ s') (h1 : s' ≤ 30) :
    Jn w B g A len cap q gj X' c' n' rs' s' ((w1.setCell ⟨gj, 0, none⟩ (.slice X' n' c')).setCell ⟨gj, 1, none⟩ (.int .i64 s')) := by
  have hb := h.big
  exact ⟨(h.rd.setOther (q := ⟨gj, 0, none⟩) (by show B ≤ gj; omega) (by show gj ≠ g; omega) _).setOther (q := ⟨gj, 1, none⟩) (by show B ≤ gj; omega) (by show gj ≠ g; omega) _, grown_setNew (grown_setNew h.grown ⟨gj, 0, none⟩ (by show w.heap.size ≤ gj; omega) _) ⟨gj, 1, none⟩ (by show w.heap.size ≤ gj; omega) _,
    (h.kr.setOther (p := ⟨gj, 0, none⟩) (by show gj ≠ _; omega) _).setOther (p := ⟨gj, 1, none⟩) (by show gj ≠ _; omega) _, blk_two h.kj _ _, rown_two ho h.kj _ _, hf, hl, hw, h0, h1, hb⟩
theorem Jn.sync (h : Jn w B g A len cap q gj X c n rs s w1) (hgl : g < w.heap.size) (hB : B ≤ g) {s' : Int} (h0 : -1 ≤ s') (h1 : s' ≤ 30) :
    Jn w B g A len cap q gj X c n rs s' (w1.setCell ⟨gj, 1, none⟩ (.int .i64 s')) := by
  have hb := h.big
  exact ⟨h.rd.setOther (q := ⟨gj, 1, none⟩) (by show B ≤ gj; omega) (by show gj ≠ g; omega) _, grown_setNew h.grown ⟨gj, 1, none⟩ (by show w.heap.size ≤ gj; omega) _,
    h.kr.setOther (p := ⟨gj, 1, none⟩) (by show gj ≠ _; omega) _, h.kj.setOwn 1 _, rown_block h.own fun y hy => Below.heap_setCell _ ⟨gj, 1, none⟩ _ y (own_ne_blk h.own h.kj (by decide) y hy), h.fit, h.len_, h.few, h0, h1, hb⟩
theorem Jn.row (h : Jn w B g A len cap q gj X c n rs s w1) (hgl : g < w.heap.size) (hB : B ≤ g) {X' : Option Addr} {c' n' : Nat} {rs' : List RD} (ho : OwnRow RK w1 (w.heap.size + 1) X' c' rs') (hf : FitR rs') (hl : rs'.length = n') (hw : n' ≤ 31) :
    Jn w B g A len cap q gj X' c' n' rs' s (w1.setCell ⟨gj, 0, none⟩ (.slice X' n' c')) := by
  have hb := h.big
  exact ⟨h.rd.setOther (q := ⟨gj, 0, none⟩) (by show B ≤ gj; omega) (by show gj ≠ g; omega) _, grown_setNew h.grown ⟨gj, 0, none⟩ (by show w.heap.size ≤ gj; omega) _,
    h.kr.setOther (p := ⟨gj, 0, none⟩) (by show gj ≠ _; omega) _, h.kj.setOwn 0 _, rown_block ho fun y hy => Below.heap_setCell _ ⟨gj, 0, none⟩ _ y (own_ne_blk ho h.kj (by decide) y hy), hf, hl, hw, h.s0, h.s1, hb⟩
end
theorem addR_len (rs : List RD) (s : Int) (r : RD) : (addR rs s r).length ≤ 20 := by
  unfold addR
  split
  · rename_i h
    have := ((jokB_iff _ _).1 h.1).1
    split
    · rw [List.length_append, List.length_singleton]; omega
    · exact this
  · exact Nat.zero_le _
theorem addS_bd (rs : List RD) (s : Int) (r : RD) (h0 : -1 ≤ s) (h1 : s ≤ 30) : -1 ≤ addS rs s r ∧ addS rs s r ≤ 30 := by
  unfold addS; split <;> omega
theorem syncR_len (rs : List RD) (s : Int) : (syncR rs s).length ≤ 20 := by
  unfold syncR
  split
  · rename_i h; exact ((jokB_iff _ _).1 h).1
  · exact Nat.zero_le _
theorem syncS_bd (rs : List RD) (s : Int) : -1 ≤ syncS rs s ∧ syncS rs s ≤ 30 := by
  unfold syncS
  split
  · rename_i h; have := ((jokB_iff _ _).1 h).1; omega
  · omega

def JDrawn (w : World) (B g : Nat) (A : Option Addr) (len cap p : Nat) (e : Ending) (w' : World) : Prop :=
  ∃ (X : Option Addr) (c : Nat) (rs : List RD) (s : Int) (p' : Nat), e = .returned (journalV X rs.length c s) ∧ OwnRow RK w' w.heap.size X c rs ∧ FitR rs ∧ rs.length ≤ 31 ∧ -1 ≤ s ∧ s ≤ 30 ∧ p' ≤ p + 700 ∧ Rd w' B g A len cap p' ∧ w.grownBy w' (some g)

set_option maxHeartbeats 16000000 in
set_option maxRecDepth 100000 in
theorem drawjournal_any {B g len cap p : Nat} {A : Option Addr} {w : World} (hR : Rd w B g A len cap p) (hp : p ≤ 80000) :
    Calls Try.prog 32 #[.pointer (some ⟨g, 0, none⟩)] w (JDrawn w B g A len cap p) := by
  have hgl := hR.lt
  have hB := hR.big
  have hBw : B ≤ w.heap.size := by omega
  obtain ⟨i0, zz, hi0, hz0, hz1, hz2, hz3⟩ := app_info
  have HI0 := Lib.hid (And.intro hi0 (And.intro hz0 (And.intro hz1 (And.intro hz2 hz3))))
  clear hi0 hz0 hz1 hz2 hz3
  obtain ⟨W, HW⟩ : ∃ W, Hid (((w.alloc (.cells #[.slice none 0 0, .int .i64 0] 25)).alloc (.cells #[] 36)).alloc (.cells #[.slice (some ⟨w.heap.size + 1, 0, none⟩) 0 0, .int .i64 0] 25) = W) := ⟨_, rfl⟩
  have HN0 : Hid (Jn w B g A len cap p (w.heap.size + 1 + 1) (some ⟨w.heap.size + 1, 0, none⟩) 0 0 [] 0 W) := by
    rw [← HW.out]
    have h1 := OwnRow.new RK (w.alloc (.cells #[.slice none 0 0, .int .i64 0] 25))
    rw [World.size_alloc] at h1
    have h2 := Blk.new ((w.alloc (.cells #[.slice none 0 0, .int .i64 0] 25)).alloc (.cells #[] 36)) 25 #[.slice (some ⟨w.heap.size + 1, 0, none⟩) 0 0, .int .i64 0]
    rw [World.size_alloc, World.size_alloc] at h2
    exact ⟨((hR.alloc _).alloc _).alloc _, World.grownBy.trans (World.grownBy.trans (grown_of_alloc w _ _) (grown_of_alloc _ _ _)) (grown_of_alloc _ _ _), ((Blk.new w _ _).alloc _).alloc _, h2, h1.alloc _, FitR.of (fun _ h => by cases h), rfl, by omega, by omega, by omega, by omega⟩
  obtain ⟨gj, hgj⟩ : ∃ v, w.heap.size + 1 + 1 = v := ⟨_, rfl⟩
  rw [hgj] at HN0
  obtain ⟨q0, hq0⟩ : ∃ v, p = v := ⟨_, rfl⟩
  rw [hq0] at HN0
  clear hR
  go_enter Try.func32, Try.ntmps32
  go_upto_region 2 with fail
  rw [HW.out]
  go_wp2_with fail
  refine (pick_any 12 HN0.out.rd (by omega) (by omega) (by omega)).mono ?_
  rintro e w1 ⟨m, hm, rfl, hR1, hg1, hz1⟩
  obtain ⟨q1, hq1⟩ : ∃ q, q = q0 + 1 := ⟨_, rfl⟩
  rw [← hq1] at hR1
  have HN1 := Lib.hid (HN0.out.pick hgl hR1 hg1)
  clear hR1 hg1 hz1
  go_wp2_with fail
  refine (pick_any 8 HN1.out.rd (by omega) (by omega) (by omega)).mono ?_
  rintro e ws ⟨x, hx, rfl, hRs, hgs, hzs⟩
  obtain ⟨qs, hqs⟩ : ∃ q, q = q1 + 1 := ⟨_, rfl⟩
  rw [← hqs] at hRs
  have HNs := Lib.hid (HN1.out.pick hgl hRs hgs)
  clear hRs hgs hzs
  by_cases hx0 : x = 0
  · subst hx0
    go_wp2_with fail
    go_loopw [5] (fun i w' => ∃ (k q : Nat) (X : Option Addr) (c n : Nat) (rs : List RD) (s : Int), k ≤ 24 ∧ i = .int .i64 k ∧ q ≤ qs + 18 * k ∧ n ≤ 30 ∧ Hid (Jn w B g A len cap q gj X c n rs s w')) (fun i _ => 24 - (intOf i).toNat)
    case atStart => exact ⟨0, qs, _, _, _, _, _, Nat.zero_le _, rfl, by omega, by omega, HNs⟩
    case round =>
      obtain ⟨k, q, X, c, n, rs, s, hk, rfl, hq, hn30, HN⟩ := hrel
      have hs0 := HN.out.s0
      have hs1 := HN.out.s1
      have hbj := HN.out.big
      by_cases hlt : k < 24
      · have hki : (k : Int) < 24 := by omega
        go_upto_region 8 with fail
        go_cut [6, 7] (fun s6 s7 wx => ∃ (gx : Nat) (Xa : Option Addr) (ca na : Nat) (ra : List RD) (sa : Int) (ok : Bool) (qa : Nat), s6 = .pointer (some ⟨gx, 0, none⟩) ∧ s7 = .bool ok ∧ qa ≤ q + 17 ∧ w.heap.size + 1 ≤ gx ∧ gx ≠ gj ∧ Hid (Jn w B g A len cap qa gj X c n rs s wx) ∧ Hid (Blk wx gx 25 #[.slice Xa na ca, .int .i64 sa]) ∧ Hid (OwnRow RK wx (w.heap.size + 1) Xa ca ra) ∧ FitR ra ∧ ra.length = na ∧ na ≤ 30 ∧ -1 ≤ sa ∧ sa ≤ 30)
        case first =>
          (try go_wp2_with fail)
          refine wp_region_held_drew (S := (fun w' => w'.cell? ⟨gj, 0, none⟩ = some (.slice X n c) ∧ w'.cell? ⟨gj, 1, none⟩ = some (.int .i64 s))) (by kernel_rfl) (jr_cells HN.out.kj) (fun hHeld => ?_)
          obtain ⟨U0, HU0⟩ : ∃ U, Hid (wr.drew = U) := ⟨_, rfl⟩
          have HM0 : Hid (Jn w B g A len cap q gj X c n rs s U0) := by rw [← HU0.out]; exact HN.out.drew
          rw [HU0.out] at hHeld ⊢
          refine wpAnyH_take (i := 0) (v := ?zv1) rfl (by kernel_rfl) (by kernel_rfl) (by kernel_rfl) (fun _ _ _ h => h) (Or.inl ⟨by kernel_rfl, ?zy1⟩) (by assumption) ?zr1
          case zy1 => (intro w hSw; (try dsimp only at hSw); go_simp; try with_reducible rfl)
          change wpAnyH _ _ _ _ _ _ _ (Act.put _ (some 21) _) _
          simp only [Act.put, List.setIfInBounds_toArray, List.set_cons_zero, List.set_cons_succ]
          refine wpAnyH_take (i := 1) (v := ?zv2) rfl (by kernel_rfl) (by kernel_rfl) (by kernel_rfl) (fun _ _ _ h => h) (Or.inl ⟨by kernel_rfl, ?zy2⟩) (by assumption) ?zr2
          case zy2 => (intro w hSw; (try dsimp only at hSw); go_simp; try with_reducible rfl)
          change wpAnyH _ _ _ _ _ _ _ (Act.put _ (some 22) _) _
          simp only [Act.put, List.setIfInBounds_toArray, List.set_cons_zero, List.set_cons_succ]
          refine wpAnyH_ready (rs := [2, 7]) (by kernel_rfl) (by simp) (AllReadyH.cons rfl (fun K hK => ?zo3_0) (AllReadyH.cons rfl (fun K hK => ?zo3_1) AllReadyH.nil))
          case zo3_0 =>
            go_simp
            go_at_call 38
            refine (drawrec_any HM0.out.rd (by omega)).mono ?_
            rintro e U1 ⟨rr, qr, rfl, hrt, hri0, hri1, hqr, hR1, hg1⟩
            have HM1 := Lib.hid (HM0.out.pick hgl hR1 hg1)
            have hzz1 : U0.heap.size ≤ U1.heap.size := hg1.size
            clear hR1 hg1
            refine hK.out _ _ (jr_cells HM1.out.kj) (fun hHeld => ?_)
            clear hK K
            (try simp only [Act.put, List.setIfInBounds_toArray, List.set_cons_zero, List.set_cons_succ])
            refine wpAnyH_ready (rs := [3, 7]) (by kernel_rfl) (by simp) (AllReadyH.cons rfl (fun K hK => ?zo4_0) (AllReadyH.cons rfl (fun K hK => ?zo4_1) AllReadyH.nil))
            case zo4_0 =>
              go_simp
              go_at_call 16
              have CA := sjadd_any X c s rs rr U1 HM1.out.jat (by unfold maxLen; omega)
              rw [HM1.out.len_] at CA
              refine CA.mono ?_
              rintro e U2 ⟨Xa, ca, rfl, hoa, hfa, hb2⟩
              have HM2 := Lib.hid (HM1.out.then_ hb2)
              have HOA2 : Hid (OwnRow RK U2 (w.heap.size + 1) Xa ca (addR rs s rr)) := hoa.base_le (by have := HM1.out.kj.lt; have := HM1.out.big; omega)
              have HFA := Lib.hid hfa
              have hzz2 : U1.heap.size ≤ U2.heap.size := hb2.size
              clear hoa hfa hb2 CA
              refine hK.out _ _ (jr_cells HM2.out.kj) (fun hHeld => ?_)
              clear hK K
              (try simp only [Act.put, List.setIfInBounds_toArray, List.set_cons_zero, List.set_cons_succ])
              refine wpAnyH_take (i := 4) (v := ?zv5) rfl (by kernel_rfl) (by kernel_rfl) (by kernel_rfl) (fun _ _ _ h => h) (Or.inl ⟨by kernel_rfl, ?zy5⟩) (by assumption) ?zr5
              case zy5 => (intro w hSw; (try dsimp only at hSw); go_simp; try with_reducible rfl)
              change wpAnyH _ _ _ _ _ _ _ (Act.put _ (some 20) _) _
              simp only [Act.put, List.setIfInBounds_toArray, List.set_cons_zero, List.set_cons_succ]
              refine wpAnyH_take (i := 5) (v := ?zv6) rfl (by kernel_rfl) (by kernel_rfl) (by kernel_rfl) (fun _ _ _ h => h) (Or.inl ⟨by kernel_rfl, ?zy6⟩) (by assumption) ?zr6
              case zy6 => (intro w hSw; (try dsimp only at hSw); go_simp; try with_reducible rfl)
              change wpAnyH _ _ _ _ _ _ _ (Act.put _ (some 25) _) _
              simp only [Act.put, List.setIfInBounds_toArray, List.set_cons_zero, List.set_cons_succ]
              refine wpAnyH_take (i := 6) (v := ?zv7) rfl (by kernel_rfl) (by kernel_rfl) (by kernel_rfl) (fun _ _ _ h => h) (Or.inl ⟨by kernel_rfl, ?zy7⟩) (by assumption) ?zr7
              case zy7 => (intro w hSw; (try dsimp only at hSw); go_simp; try with_reducible rfl)
              change wpAnyH _ _ _ _ _ _ _ (Act.put _ (some 26) _) _
              simp only [Act.put, List.setIfInBounds_toArray, List.set_cons_zero, List.set_cons_succ]
              refine wpAnyH_ready (rs := [7]) (by kernel_rfl) (by simp) (AllReadyH.cons rfl (fun K hK => ?zo8_0) AllReadyH.nil)
              case zo8_0 =>
                go_simp
                refine hK.out _ _ (jr_cells (HM2.out.kj.alloc _)) (fun hHeld => ?_)
                clear hK K
                (try simp only [Act.put, List.setIfInBounds_toArray, List.set_cons_zero, List.set_cons_succ])
                obtain ⟨U3, HU3⟩ : ∃ U, Hid (U2.alloc (.cells #[.slice none 0 0, .int .i64 0] 25) = U) := ⟨_, rfl⟩
                have hb3 : Below U2.heap.size U2 U3 := by rw [← HU3.out]; exact (Below.refl _ _).alloc (Nat.le_refl _) _
                have HM3 := Lib.hid (HM2.out.then_ hb3)
                have KX3 : Hid (Blk U3 U2.heap.size 25 #[.slice none 0 0, .int .i64 0]) := by rw [← HU3.out]; exact Blk.new U2 _ _
                have hgx1 : w.heap.size + 1 ≤ U2.heap.size := by have := HM2.out.kj.lt; have := HM2.out.big; omega
                have hgx2 : gj < U2.heap.size := HM2.out.kj.lt
                have hgx3 : g < U2.heap.size := HM2.out.rd.lt
                have hzz3 : U2.heap.size ≤ U3.heap.size := hb3.size
                have HOA3 := Lib.hid (HOA2.out.below hb3)
                clear hb3
                rw [HU3.out] at hHeld ⊢
                refine wpAnyH_ready (rs := [8]) (by kernel_rfl) (by simp) (AllReadyH.cons rfl (fun K hK => ?zo9_0) AllReadyH.nil)
                case zo9_0 =>
                  go_simp
                  obtain ⟨n0, n1⟩ := jr_cells KX3.out
                  have nf := blk_frozen KX3.out
                  obtain ⟨U4, HU4⟩ : ∃ U, Hid (((U3.setCell ⟨U2.heap.size, 0, none⟩ (.slice Xa (List.length (addR rs s rr)) ca)).setCell ⟨U2.heap.size, 1, none⟩ (.int .i64 (addS rs s rr))) = U) := ⟨_, rfl⟩
                  have hgn : g ≠ U2.heap.size := by omega
                  have hMr := (HM3.out.rd.setOther (q := ⟨U2.heap.size, 0, none⟩) (by show B ≤ U2.heap.size; omega) (by show U2.heap.size ≠ g; omega) (.slice Xa (List.length (addR rs s rr)) ca)).setOther (q := ⟨U2.heap.size, 1, none⟩) (by show B ≤ U2.heap.size; omega) (by show U2.heap.size ≠ g; omega) (.int .i64 (addS rs s rr))
                  have HM4 : Hid (Jn w B g A len cap qr gj X c n rs s U4) := by rw [← HU4.out]; exact ⟨hMr, grown_setNew (grown_setNew HM3.out.grown ⟨U2.heap.size, 0, none⟩ (by show w.heap.size ≤ U2.heap.size; omega) _) ⟨U2.heap.size, 1, none⟩ (by show w.heap.size ≤ U2.heap.size; omega) _, (HM3.out.kr.setOther (p := ⟨U2.heap.size, 0, none⟩) (by show U2.heap.size ≠ _; omega) _).setOther (p := ⟨U2.heap.size, 1, none⟩) (by show U2.heap.size ≠ _; omega) _, (HM3.out.kj.setOther (p := ⟨U2.heap.size, 0, none⟩) (by show U2.heap.size ≠ _; omega) _).setOther (p := ⟨U2.heap.size, 1, none⟩) (by show U2.heap.size ≠ _; omega) _, rown_two HM3.out.own KX3.out _ _, HM3.out.fit, HM3.out.len_, HM3.out.few, HM3.out.s0, HM3.out.s1, HM3.out.big⟩
                  have KX4 : Hid (Blk U4 U2.heap.size 25 #[.slice Xa (List.length (addR rs s rr)) ca, .int .i64 (addS rs s rr)]) := by rw [← HU4.out]; exact blk_two KX3.out _ _
                  have HOA4 : Hid (OwnRow RK U4 (w.heap.size + 1) Xa ca (addR rs s rr)) := by rw [← HU4.out]; exact rown_two HOA3.out KX3.out _ _
                  go_simp
                  rw [HU4.out]
                  refine hK.out _ _ (jr_cells HM4.out.kj) (fun hHeld => ?_)
                  clear hK K
                  (try simp only [Act.put])
                  refine wpAnyH_take (i := 9) (v := ?zv10) rfl (by kernel_rfl) (by kernel_rfl) (by kernel_rfl) (fun _ _ _ h => h) (Or.inl ⟨by kernel_rfl, ?zy10⟩) (by assumption) ?zr10
                  case zy10 => (intro w hSw; (try dsimp only at hSw); go_simp; try with_reducible rfl)
                  change wpAnyH _ _ _ _ _ _ _ (Act.put _ (some 7) _) _
                  simp only [Act.put, List.setIfInBounds_toArray, List.set_cons_zero, List.set_cons_succ]
                  refine wpAnyH_done (by kernel_rfl) ?_ _
                  (try go_wp2_with fail)
                  go_meet
                  exact ⟨_, Xa, ca, _, addR rs s rr, addS rs s rr, _, qr, rfl, rfl, by omega, hgx1, by omega, HM4, KX4, HOA4, HFA.out, rfl, Nat.le_trans (addR_len rs s rr) (by omega), (addS_bd rs s rr hs0 hs1).1, (addS_bd rs s rr hs0 hs1).2⟩
            case zo4_1 =>
              go_simp
              refine hK.out _ _ (jr_cells (HM1.out.kj.alloc _)) (fun hHeld => ?_)
              clear hK K
              (try simp only [Act.put, List.setIfInBounds_toArray, List.set_cons_zero, List.set_cons_succ])
              obtain ⟨U2, HU2⟩ : ∃ U, Hid (U1.alloc (.cells #[.slice none 0 0, .int .i64 0] 25) = U) := ⟨_, rfl⟩
              have hb2 : Below U1.heap.size U1 U2 := by rw [← HU2.out]; exact (Below.refl _ _).alloc (Nat.le_refl _) _
              have HM2 := Lib.hid (HM1.out.then_ hb2)
              have KX2 : Hid (Blk U2 U1.heap.size 25 #[.slice none 0 0, .int .i64 0]) := by rw [← HU2.out]; exact Blk.new U1 _ _
              have hgx1 : w.heap.size + 1 ≤ U1.heap.size := by have := HM1.out.kj.lt; have := HM1.out.big; omega
              have hgx2 : gj < U1.heap.size := HM1.out.kj.lt
              have hgx3 : g < U1.heap.size := HM1.out.rd.lt
              have hzz2 : U1.heap.size ≤ U2.heap.size := hb2.size
              clear hb2
              rw [HU2.out] at hHeld ⊢
              refine wpAnyH_ready (rs := [3]) (by kernel_rfl) (by simp) (AllReadyH.cons rfl (fun K hK => ?zo11_0) AllReadyH.nil)
              case zo11_0 =>
                go_simp
                go_at_call 16
                have CA := sjadd_any X c s rs rr U2 HM2.out.jat (by unfold maxLen; omega)
                rw [HM2.out.len_] at CA
                refine CA.mono ?_
                rintro e U3 ⟨Xa, ca, rfl, hoa, hfa, hb3⟩
                have HM3 := Lib.hid (HM2.out.then_ hb3)
                have HOA3 : Hid (OwnRow RK U3 (w.heap.size + 1) Xa ca (addR rs s rr)) := hoa.base_le (by have := HM2.out.kj.lt; have := HM2.out.big; omega)
                have HFA := Lib.hid hfa
                have KX3 := Lib.hid (KX2.out.below hb3 KX2.out.lt)
                have hzz3 : U2.heap.size ≤ U3.heap.size := hb3.size
                clear hoa hfa hb3 CA
                refine hK.out _ _ (jr_cells HM3.out.kj) (fun hHeld => ?_)
                clear hK K
                (try simp only [Act.put, List.setIfInBounds_toArray, List.set_cons_zero, List.set_cons_succ])
                refine wpAnyH_take (i := 4) (v := ?zv12) rfl (by kernel_rfl) (by kernel_rfl) (by kernel_rfl) (fun _ _ _ h => h) (Or.inl ⟨by kernel_rfl, ?zy12⟩) (by assumption) ?zr12
                case zy12 => (intro w hSw; (try dsimp only at hSw); go_simp; try with_reducible rfl)
                change wpAnyH _ _ _ _ _ _ _ (Act.put _ (some 20) _) _
                simp only [Act.put, List.setIfInBounds_toArray, List.set_cons_zero, List.set_cons_succ]
                refine wpAnyH_take (i := 5) (v := ?zv13) rfl (by kernel_rfl) (by kernel_rfl) (by kernel_rfl) (fun _ _ _ h => h) (Or.inl ⟨by kernel_rfl, ?zy13⟩) (by assumption) ?zr13
                case zy13 => (intro w hSw; (try dsimp only at hSw); go_simp; try with_reducible rfl)
                change wpAnyH _ _ _ _ _ _ _ (Act.put _ (some 25) _) _
                simp only [Act.put, List.setIfInBounds_toArray, List.set_cons_zero, List.set_cons_succ]
                refine wpAnyH_take (i := 6) (v := ?zv14) rfl (by kernel_rfl) (by kernel_rfl) (by kernel_rfl) (fun _ _ _ h => h) (Or.inl ⟨by kernel_rfl, ?zy14⟩) (by assumption) ?zr14
                case zy14 => (intro w hSw; (try dsimp only at hSw); go_simp; try with_reducible rfl)
                change wpAnyH _ _ _ _ _ _ _ (Act.put _ (some 26) _) _
                simp only [Act.put, List.setIfInBounds_toArray, List.set_cons_zero, List.set_cons_succ]
                refine wpAnyH_ready (rs := [8]) (by kernel_rfl) (by simp) (AllReadyH.cons rfl (fun K hK => ?zo15_0) AllReadyH.nil)
                case zo15_0 =>
                  go_simp
                  obtain ⟨n0, n1⟩ := jr_cells KX3.out
                  have nf := blk_frozen KX3.out
                  obtain ⟨U4, HU4⟩ : ∃ U, Hid (((U3.setCell ⟨U1.heap.size, 0, none⟩ (.slice Xa (List.length (addR rs s rr)) ca)).setCell ⟨U1.heap.size, 1, none⟩ (.int .i64 (addS rs s rr))) = U) := ⟨_, rfl⟩
                  have hgn : g ≠ U1.heap.size := by omega
                  have hMr := (HM3.out.rd.setOther (q := ⟨U1.heap.size, 0, none⟩) (by show B ≤ U1.heap.size; omega) (by show U1.heap.size ≠ g; omega) (.slice Xa (List.length (addR rs s rr)) ca)).setOther (q := ⟨U1.heap.size, 1, none⟩) (by show B ≤ U1.heap.size; omega) (by show U1.heap.size ≠ g; omega) (.int .i64 (addS rs s rr))
                  have HM4 : Hid (Jn w B g A len cap qr gj X c n rs s U4) := by rw [← HU4.out]; exact ⟨hMr, grown_setNew (grown_setNew HM3.out.grown ⟨U1.heap.size, 0, none⟩ (by show w.heap.size ≤ U1.heap.size; omega) _) ⟨U1.heap.size, 1, none⟩ (by show w.heap.size ≤ U1.heap.size; omega) _, (HM3.out.kr.setOther (p := ⟨U1.heap.size, 0, none⟩) (by show U1.heap.size ≠ _; omega) _).setOther (p := ⟨U1.heap.size, 1, none⟩) (by show U1.heap.size ≠ _; omega) _, (HM3.out.kj.setOther (p := ⟨U1.heap.size, 0, none⟩) (by show U1.heap.size ≠ _; omega) _).setOther (p := ⟨U1.heap.size, 1, none⟩) (by show U1.heap.size ≠ _; omega) _, rown_two HM3.out.own KX3.out _ _, HM3.out.fit, HM3.out.len_, HM3.out.few, HM3.out.s0, HM3.out.s1, HM3.out.big⟩
                  have KX4 : Hid (Blk U4 U1.heap.size 25 #[.slice Xa (List.length (addR rs s rr)) ca, .int .i64 (addS rs s rr)]) := by rw [← HU4.out]; exact blk_two KX3.out _ _
                  have HOA4 : Hid (OwnRow RK U4 (w.heap.size + 1) Xa ca (addR rs s rr)) := by rw [← HU4.out]; exact rown_two HOA3.out KX3.out _ _
                  go_simp
                  rw [HU4.out]
                  refine hK.out _ _ (jr_cells HM4.out.kj) (fun hHeld => ?_)
                  clear hK K
                  (try simp only [Act.put])
                  refine wpAnyH_take (i := 9) (v := ?zv16) rfl (by kernel_rfl) (by kernel_rfl) (by kernel_rfl) (fun _ _ _ h => h) (Or.inl ⟨by kernel_rfl, ?zy16⟩) (by assumption) ?zr16
                  case zy16 => (intro w hSw; (try dsimp only at hSw); go_simp; try with_reducible rfl)
                  change wpAnyH _ _ _ _ _ _ _ (Act.put _ (some 7) _) _
                  simp only [Act.put, List.setIfInBounds_toArray, List.set_cons_zero, List.set_cons_succ]
                  refine wpAnyH_done (by kernel_rfl) ?_ _
                  (try go_wp2_with fail)
                  go_meet
                  exact ⟨_, Xa, ca, _, addR rs s rr, addS rs s rr, _, qr, rfl, rfl, by omega, hgx1, by omega, HM4, KX4, HOA4, HFA.out, rfl, Nat.le_trans (addR_len rs s rr) (by omega), (addS_bd rs s rr hs0 hs1).1, (addS_bd rs s rr hs0 hs1).2⟩
          case zo3_1 =>
            go_simp
            refine hK.out _ _ (jr_cells (HM0.out.kj.alloc _)) (fun hHeld => ?_)
            clear hK K
            (try simp only [Act.put, List.setIfInBounds_toArray, List.set_cons_zero, List.set_cons_succ])
            obtain ⟨U1, HU1⟩ : ∃ U, Hid (U0.alloc (.cells #[.slice none 0 0, .int .i64 0] 25) = U) := ⟨_, rfl⟩
            have hb1 : Below U0.heap.size U0 U1 := by rw [← HU1.out]; exact (Below.refl _ _).alloc (Nat.le_refl _) _
            have HM1 := Lib.hid (HM0.out.then_ hb1)
            have KX1 : Hid (Blk U1 U0.heap.size 25 #[.slice none 0 0, .int .i64 0]) := by rw [← HU1.out]; exact Blk.new U0 _ _
            have hgx1 : w.heap.size + 1 ≤ U0.heap.size := by have := HM0.out.kj.lt; have := HM0.out.big; omega
            have hgx2 : gj < U0.heap.size := HM0.out.kj.lt
            have hgx3 : g < U0.heap.size := HM0.out.rd.lt
            have hzz1 : U0.heap.size ≤ U1.heap.size := hb1.size
            clear hb1
            rw [HU1.out] at hHeld ⊢
            refine wpAnyH_ready (rs := [2]) (by kernel_rfl) (by simp) (AllReadyH.cons rfl (fun K hK => ?zo17_0) AllReadyH.nil)
            case zo17_0 =>
              go_simp
              go_at_call 38
              refine (drawrec_any HM1.out.rd (by omega)).mono ?_
              rintro e U2 ⟨rr, qr, rfl, hrt, hri0, hri1, hqr, hR2, hg2⟩
              have HM2 := Lib.hid (HM1.out.pick hgl hR2 hg2)
              have KX2 := Lib.hid (KX1.out.grown hg2 (fun e => by injection e with e; omega))
              have hzz2 : U1.heap.size ≤ U2.heap.size := hg2.size
              clear hR2 hg2
              refine hK.out _ _ (jr_cells HM2.out.kj) (fun hHeld => ?_)
              clear hK K
              (try simp only [Act.put, List.setIfInBounds_toArray, List.set_cons_zero, List.set_cons_succ])
              refine wpAnyH_ready (rs := [3]) (by kernel_rfl) (by simp) (AllReadyH.cons rfl (fun K hK => ?zo18_0) AllReadyH.nil)
              case zo18_0 =>
                go_simp
                go_at_call 16
                have CA := sjadd_any X c s rs rr U2 HM2.out.jat (by unfold maxLen; omega)
                rw [HM2.out.len_] at CA
                refine CA.mono ?_
                rintro e U3 ⟨Xa, ca, rfl, hoa, hfa, hb3⟩
                have HM3 := Lib.hid (HM2.out.then_ hb3)
                have HOA3 : Hid (OwnRow RK U3 (w.heap.size + 1) Xa ca (addR rs s rr)) := hoa.base_le (by have := HM2.out.kj.lt; have := HM2.out.big; omega)
                have HFA := Lib.hid hfa
                have KX3 := Lib.hid (KX2.out.below hb3 KX2.out.lt)
                have hzz3 : U2.heap.size ≤ U3.heap.size := hb3.size
                clear hoa hfa hb3 CA
                refine hK.out _ _ (jr_cells HM3.out.kj) (fun hHeld => ?_)
                clear hK K
                (try simp only [Act.put, List.setIfInBounds_toArray, List.set_cons_zero, List.set_cons_succ])
                refine wpAnyH_take (i := 4) (v := ?zv19) rfl (by kernel_rfl) (by kernel_rfl) (by kernel_rfl) (fun _ _ _ h => h) (Or.inl ⟨by kernel_rfl, ?zy19⟩) (by assumption) ?zr19
                case zy19 => (intro w hSw; (try dsimp only at hSw); go_simp; try with_reducible rfl)
                change wpAnyH _ _ _ _ _ _ _ (Act.put _ (some 20) _) _
                simp only [Act.put, List.setIfInBounds_toArray, List.set_cons_zero, List.set_cons_succ]
                refine wpAnyH_take (i := 5) (v := ?zv20) rfl (by kernel_rfl) (by kernel_rfl) (by kernel_rfl) (fun _ _ _ h => h) (Or.inl ⟨by kernel_rfl, ?zy20⟩) (by assumption) ?zr20
                case zy20 => (intro w hSw; (try dsimp only at hSw); go_simp; try with_reducible rfl)
                change wpAnyH _ _ _ _ _ _ _ (Act.put _ (some 25) _) _
                simp only [Act.put, List.setIfInBounds_toArray, List.set_cons_zero, List.set_cons_succ]
                refine wpAnyH_take (i := 6) (v := ?zv21) rfl (by kernel_rfl) (by kernel_rfl) (by kernel_rfl) (fun _ _ _ h => h) (Or.inl ⟨by kernel_rfl, ?zy21⟩) (by assumption) ?zr21
                case zy21 => (intro w hSw; (try dsimp only at hSw); go_simp; try with_reducible rfl)
                change wpAnyH _ _ _ _ _ _ _ (Act.put _ (some 26) _) _
                simp only [Act.put, List.setIfInBounds_toArray, List.set_cons_zero, List.set_cons_succ]
                refine wpAnyH_ready (rs := [8]) (by kernel_rfl) (by simp) (AllReadyH.cons rfl (fun K hK => ?zo22_0) AllReadyH.nil)
                case zo22_0 =>
                  go_simp
                  obtain ⟨n0, n1⟩ := jr_cells KX3.out
                  have nf := blk_frozen KX3.out
                  obtain ⟨U4, HU4⟩ : ∃ U, Hid (((U3.setCell ⟨U0.heap.size, 0, none⟩ (.slice Xa (List.length (addR rs s rr)) ca)).setCell ⟨U0.heap.size, 1, none⟩ (.int .i64 (addS rs s rr))) = U) := ⟨_, rfl⟩
                  have hgn : g ≠ U0.heap.size := by omega
                  have hMr := (HM3.out.rd.setOther (q := ⟨U0.heap.size, 0, none⟩) (by show B ≤ U0.heap.size; omega) (by show U0.heap.size ≠ g; omega) (.slice Xa (List.length (addR rs s rr)) ca)).setOther (q := ⟨U0.heap.size, 1, none⟩) (by show B ≤ U0.heap.size; omega) (by show U0.heap.size ≠ g; omega) (.int .i64 (addS rs s rr))
                  have HM4 : Hid (Jn w B g A len cap qr gj X c n rs s U4) := by rw [← HU4.out]; exact ⟨hMr, grown_setNew (grown_setNew HM3.out.grown ⟨U0.heap.size, 0, none⟩ (by show w.heap.size ≤ U0.heap.size; omega) _) ⟨U0.heap.size, 1, none⟩ (by show w.heap.size ≤ U0.heap.size; omega) _, (HM3.out.kr.setOther (p := ⟨U0.heap.size, 0, none⟩) (by show U0.heap.size ≠ _; omega) _).setOther (p := ⟨U0.heap.size, 1, none⟩) (by show U0.heap.size ≠ _; omega) _, (HM3.out.kj.setOther (p := ⟨U0.heap.size, 0, none⟩) (by show U0.heap.size ≠ _; omega) _).setOther (p := ⟨U0.heap.size, 1, none⟩) (by show U0.heap.size ≠ _; omega) _, rown_two HM3.out.own KX3.out _ _, HM3.out.fit, HM3.out.len_, HM3.out.few, HM3.out.s0, HM3.out.s1, HM3.out.big⟩
                  have KX4 : Hid (Blk U4 U0.heap.size 25 #[.slice Xa (List.length (addR rs s rr)) ca, .int .i64 (addS rs s rr)]) := by rw [← HU4.out]; exact blk_two KX3.out _ _
                  have HOA4 : Hid (OwnRow RK U4 (w.heap.size + 1) Xa ca (addR rs s rr)) := by rw [← HU4.out]; exact rown_two HOA3.out KX3.out _ _
                  go_simp
                  rw [HU4.out]
                  refine hK.out _ _ (jr_cells HM4.out.kj) (fun hHeld => ?_)
                  clear hK K
                  (try simp only [Act.put])
                  refine wpAnyH_take (i := 9) (v := ?zv23) rfl (by kernel_rfl) (by kernel_rfl) (by kernel_rfl) (fun _ _ _ h => h) (Or.inl ⟨by kernel_rfl, ?zy23⟩) (by assumption) ?zr23
                  case zy23 => (intro w hSw; (try dsimp only at hSw); go_simp; try with_reducible rfl)
                  change wpAnyH _ _ _ _ _ _ _ (Act.put _ (some 7) _) _
                  simp only [Act.put, List.setIfInBounds_toArray, List.set_cons_zero, List.set_cons_succ]
                  refine wpAnyH_done (by kernel_rfl) ?_ _
                  (try go_wp2_with fail)
                  go_meet
                  exact ⟨_, Xa, ca, _, addR rs s rr, addS rs s rr, _, qr, rfl, rfl, by omega, hgx1, by omega, HM4, KX4, HOA4, HFA.out, rfl, Nat.le_trans (addR_len rs s rr) (by omega), (addS_bd rs s rr hs0 hs1).1, (addS_bd rs s rr hs0 hs1).2⟩
        case rest =>
          obtain ⟨gx, Xa, ca, na, ra, sa, ok, qa, rfl, rfl, hqa, hgx, hgj, HNa, KX, HOA, hfa, hla, hna, hsa0, hsa1⟩ := hcut
          obtain ⟨x0, x1⟩ := jr_cells KX.out
          obtain ⟨j0, j1⟩ := jr_cells HNa.out.kj
          have jf := blk_frozen HNa.out.kj
          have HSA := Lib.hid (HNa.out.set hgl hB HOA.out hfa hla (by omega) hsa0 hsa1)
          have hgj2 : gj ≠ gx := fun e => hgj e.symm
          cases ok with
          | true =>
            go_wp2_with fail
            obtain ⟨wb, HWB⟩ : ∃ Q0, Hid ((wc.setCell ⟨gj, 0, none⟩ (.slice Xa na ca)).setCell ⟨gj, 1, none⟩ (.int .i64 sa) = Q0) := ⟨_, rfl⟩
            rw [HWB.out] at HSA ⊢
            have HNb := HSA
            clear x0 x1 j0 j1 jf
            refine (pick_any 4 HNb.out.rd (by omega) (by omega) (by omega)).mono ?_
            rintro e wp ⟨y, hy, rfl, hRp, hgp, hzp⟩
            have HNp := Lib.hid (HNb.out.pick hgl hRp hgp)
            clear hRp hgp hzp
            by_cases hy0 : y = 0
            · subst hy0
              have CS : Hid (∀ U, Jn w B g A len cap (qa + 1) gj Xa ca na ra sa U → Calls Try.prog 49 #[journalV Xa na ca sa] U (RetJ U (syncR ra sa) (syncS ra sa))) := fun U hU => by
                have h := sjsync_any Xa ca sa ra U hU.jat
                rw [hU.len_] at h
                exact h
              obtain ⟨j0, j1⟩ := jr_cells HNp.out.kj
              go_wp2_with fail
              refine (CS.out _ HNp.out).mono ?_
              rintro e wq ⟨Xs, cs, rfl, hos, hfs, hbs⟩
              have HNq := Lib.hid (HNp.out.then_ hbs)
              have HOS : Hid (OwnRow RK wq (w.heap.size + 1) Xs cs (syncR ra sa)) := hos.base_le (by have := HNp.out.kj.lt; have := HNp.out.big; omega)
              have HSET := Lib.hid (HNq.out.set hgl hB HOS.out hfs rfl (Nat.le_trans (syncR_len _ _) (by omega)) (syncS_bd ra sa).1 (syncS_bd ra sa).2)
              clear hos hbs j0 j1
              obtain ⟨j0, j1⟩ := jr_cells HNq.out.kj
              have jf := blk_frozen HNq.out.kj
              obtain ⟨ns, HNS⟩ : ∃ v, Hid ((syncR ra sa).length = v) := ⟨_, rfl⟩
              obtain ⟨ss, HSS⟩ : ∃ v, Hid (syncS ra sa = v) := ⟨_, rfl⟩
              rw [HNS.out, HSS.out] at HSET ⊢
              go_wp2
              go_roundw
              case rel => exact ⟨k + 1, qa + 1, Xs, cs, ns, _, ss, by omega, by go_num, by omega, by have := syncR_len ra sa; have := HNS.out; omega, HSET⟩
              case measure => simp [intOf]; omega
            · have hyi : ((y : Int) == 0) = false := by rw [beq_eq_false_iff_ne]; omega
              go_wp2
              go_roundw
              case rel => exact ⟨k + 1, qa + 1, Xa, ca, na, ra, sa, by omega, by go_num, by omega, by omega, HNp⟩
              case measure => simp [intOf]; omega
          | false =>
            go_wp2_with fail
            clear x0 x1 j0 j1 jf
            have HNb := HNa
            refine (pick_any 4 HNb.out.rd (by omega) (by omega) (by omega)).mono ?_
            rintro e wp ⟨y, hy, rfl, hRp, hgp, hzp⟩
            have HNp := Lib.hid (HNb.out.pick hgl hRp hgp)
            clear hRp hgp hzp
            by_cases hy0 : y = 0
            · subst hy0
              have CS : Hid (∀ U, Jn w B g A len cap (qa + 1) gj X c n rs s U → Calls Try.prog 49 #[journalV X n c s] U (RetJ U (syncR rs s) (syncS rs s))) := fun U hU => by
                have h := sjsync_any X c s rs U hU.jat
                rw [hU.len_] at h
                exact h
              obtain ⟨j0, j1⟩ := jr_cells HNp.out.kj
              go_wp2_with fail
              refine (CS.out _ HNp.out).mono ?_
              rintro e wq ⟨Xs, cs, rfl, hos, hfs, hbs⟩
              have HNq := Lib.hid (HNp.out.then_ hbs)
              have HOS : Hid (OwnRow RK wq (w.heap.size + 1) Xs cs (syncR rs s)) := hos.base_le (by have := HNp.out.kj.lt; have := HNp.out.big; omega)
              have HSET := Lib.hid (HNq.out.set hgl hB HOS.out hfs rfl (Nat.le_trans (syncR_len _ _) (by omega)) (syncS_bd rs s).1 (syncS_bd rs s).2)
              clear hos hbs j0 j1
              obtain ⟨j0, j1⟩ := jr_cells HNq.out.kj
              have jf := blk_frozen HNq.out.kj
              obtain ⟨ns, HNS⟩ : ∃ v, Hid ((syncR rs s).length = v) := ⟨_, rfl⟩
              obtain ⟨ss, HSS⟩ : ∃ v, Hid (syncS rs s = v) := ⟨_, rfl⟩
              rw [HNS.out, HSS.out] at HSET ⊢
              go_wp2
              go_roundw
              case rel => exact ⟨k + 1, qa + 1, Xs, cs, ns, _, ss, by omega, by go_num, by omega, by have := syncR_len rs s; have := HNS.out; omega, HSET⟩
              case measure => simp [intOf]; omega
            · have hyi : ((y : Int) == 0) = false := by rw [beq_eq_false_iff_ne]; omega
              go_wp2
              go_roundw
              case rel => exact ⟨k + 1, qa + 1, X, c, n, rs, s, by omega, by go_num, by omega, by omega, HNp⟩
              case measure => simp [intOf]; omega
      · have hkm : k = 24 := by omega
        subst hkm
        go_wp2_with fail
        refine (pick_any 20 HN.out.rd (by omega) (by omega) (by omega)).mono ?_
        rintro e wt ⟨y, hy, rfl, hRt, hgt, hzt⟩
        obtain ⟨qt, hqt⟩ : ∃ q0, q0 = q + 1 := ⟨_, rfl⟩
        rw [← hqt] at hRt
        have HNt := Lib.hid (HN.out.pick hgl hRt hgt)
        clear hRt hgt hzt
        by_cases hy0 : y = 0
        · subst hy0
          go_wp2_with fail
          refine (pick_any 24 HNt.out.rd (by omega) (by omega) (by omega)).mono ?_
          rintro e wu ⟨z, hz, rfl, hRu, hgu, hzu⟩
          obtain ⟨qu, hqu⟩ : ∃ q, q = qt + 1 := ⟨_, rfl⟩
          rw [← hqu] at hRu
          have HNu := Lib.hid (HNt.out.pick hgl hRu hgu)
          clear hRu hgu hzu
          obtain ⟨j0, j1⟩ := jr_cells HNu.out.kj
          have jf := blk_frozen HNu.out.kj
          have hz0 : (0 : Int) ≤ (z : Int) := by omega
          have hz24 : (z : Int) ≤ 24 := by omega
          have HSY := Lib.hid (HNu.out.sync hgl hB (s' := (z : Int) - 1) (by omega) (by omega))
          go_upto_region 18 with fail
          obtain ⟨wv, HWV⟩ : ∃ Q0, Hid (wu.setCell ⟨gj, 1, none⟩ (.int .i64 ((z : Int) - 1)) = Q0) := ⟨_, rfl⟩
          rw [HWV.out] at HSY ⊢
          have HNv := HSY
          clear j0 j1 jf
          obtain ⟨j0, j1⟩ := jr_cells HNv.out.kj
          obtain ⟨z0, z1⟩ := jr_cells HNv.out.kr
          have zf := blk_frozen HNv.out.kr
          go_wp2
          obtain ⟨Y, HY⟩ : ∃ Q0, Hid ((wv.setCell ⟨w.heap.size, 0, none⟩ (.slice X n c)).setCell ⟨w.heap.size, 1, none⟩ (.int .i64 ((z : Int) - 1)) = Q0) := ⟨_, rfl⟩
          have KY : Hid (Blk Y w.heap.size 25 #[.slice X n c, .int .i64 ((z : Int) - 1)]) := by rw [← HY.out]; exact blk_two HNv.out.kr _ _
          have HRY : Hid (Rd Y B g A len cap qu) := by rw [← HY.out]; exact (HNv.out.rd.setOther (q := ⟨w.heap.size, 0, none⟩) (by show B ≤ w.heap.size; omega) (by show w.heap.size ≠ g; omega) _).setOther (q := ⟨w.heap.size, 1, none⟩) (by show B ≤ w.heap.size; omega) (by show w.heap.size ≠ g; omega) _
          have HGY : Hid (w.grownBy Y (some g)) := by rw [← HY.out]; exact grown_setNew (grown_setNew HNv.out.grown ⟨w.heap.size, 0, none⟩ (Nat.le_refl _) _) ⟨w.heap.size, 1, none⟩ (Nat.le_refl _) _
          have HOY : Hid (OwnRow RK Y w.heap.size X c rs) := by rw [← HY.out]; exact (rown_two HNv.out.own HNv.out.kr _ _).base_le (by omega)
          rw [HY.out]
          obtain ⟨y0, y1⟩ := jr_cells KY.out
          exact bodyPost_ret (v := journalV X n c ((z : Int) - 1)) (by simp [results, Try.results32, go_sem, y0, y1]) rfl ⟨X, c, rs, ((z : Int) - 1), qu, by rw [HNv.out.len_], HOY.out, HNv.out.fit, by rw [HNv.out.len_]; exact HNv.out.few, HNv.out.s0, HNv.out.s1, by omega, HRY.out, HGY.out⟩
        · have hyi : ((y : Int) == 0) = false := by rw [beq_eq_false_iff_ne]; omega
          by_cases hy1 : y = 1
          · subst hy1
            go_upto_region 17 with fail
            (try go_wp2_with fail)
            refine wp_region_held_drew (S := (fun _ => True)) (by kernel_rfl) (trivial) (fun hHeld => ?_)
            obtain ⟨U0, HU0⟩ : ∃ U, Hid (wt.drew = U) := ⟨_, rfl⟩
            have HM0 : Hid (Jn w B g A len cap qt gj X c n rs s U0) := by rw [← HU0.out]; exact HNt.out.drew
            rw [HU0.out]
            obtain ⟨j0, j1⟩ := jr_cells HM0.out.kj
            refine wpAnyH_take (i := 0) (v := ?zv24) rfl (by kernel_rfl) (by kernel_rfl) (by kernel_rfl) (fun _ _ _ h => h) (Or.inl ⟨by kernel_rfl, ?zy24⟩) (by assumption) ?zr24
            case zy24 => (intro w hSw; (try dsimp only at hSw); go_simp; try with_reducible rfl)
            change wpAnyH _ _ _ _ _ _ _ (Act.put _ (some 44) _) _
            simp only [Act.put, List.setIfInBounds_toArray, List.set_cons_zero, List.set_cons_succ]
            refine wpAnyH_take (i := 2) (v := ?zv25) rfl (by kernel_rfl) (by kernel_rfl) (by kernel_rfl) (fun _ _ _ h => h) (Or.inl ⟨by kernel_rfl, ?zy25⟩) (by assumption) ?zr25
            case zy25 => (intro w hSw; (try dsimp only at hSw); go_simp; try with_reducible rfl)
            change wpAnyH _ _ _ _ _ _ _ (Act.put _ (some 46) _) _
            simp only [Act.put, List.setIfInBounds_toArray, List.set_cons_zero, List.set_cons_succ]
            refine wpAnyH_ready (rs := [1, 3]) (by kernel_rfl) (by simp) (AllReadyH.cons rfl (fun K hK => ?zo26_0) (AllReadyH.cons rfl (fun K hK => ?zo26_1) AllReadyH.nil))
            case zo26_0 =>
              go_simp
              refine hK.out _ _ (trivial) (fun hHeld => ?_)
              clear hK K
              (try simp only [Act.put, List.setIfInBounds_toArray, List.set_cons_zero, List.set_cons_succ])
              refine wpAnyH_ready (rs := [3]) (by kernel_rfl) (by simp) (AllReadyH.cons rfl (fun K hK => ?zo27_0) AllReadyH.nil)
              case zo27_0 =>
                go_simp
                go_at_call 38
                refine (drawrec_any HM0.out.rd (by omega)).mono ?_
                rintro e U2 ⟨rr, qr, rfl, hrt, hri0, hri1, hqr, hR2, hg2⟩
                obtain ⟨ri, rt⟩ := rr
                have HM2 := Lib.hid (HM0.out.pick hgl hR2 hg2)
                clear hR2 hg2
                refine hK.out _ _ (trivial) (fun hHeld => ?_)
                clear hK K
                (try simp only [Act.put, List.setIfInBounds_toArray, List.set_cons_zero, List.set_cons_succ])
                obtain ⟨j0, j1⟩ := jr_cells HM2.out.kj
                refine wpAnyH_ready (rs := [4]) (by kernel_rfl) (by simp) (AllReadyH.cons rfl (fun K hK => ?zo28_0) AllReadyH.nil)
                case zo28_0 =>
                  go_simp
                  refine hK.out _ _ (trivial) (fun hHeld => ?_)
                  clear hK K
                  (try simp only [Act.put, List.setIfInBounds_toArray, List.set_cons_zero, List.set_cons_succ])
                  obtain ⟨U3, HU3⟩ : ∃ U, Hid (U2.alloc (.cells #[.int .i64 ri, .string rt] 36) = U) := ⟨_, rfl⟩
                  have hb3 : Below U2.heap.size U2 U3 := by rw [← HU3.out]; exact (Below.refl _ _).alloc (Nat.le_refl _) _
                  have HM3 := Lib.hid (HM2.out.then_ hb3)
                  have HONE : Hid (RowAt RK U3 U3.heap.size (some ⟨U2.heap.size, 0, none⟩) [(⟨ri, rt⟩ : RD)]) := by rw [← HU3.out]; exact one_newR RK U2 ⟨ri, rt⟩ _
                  clear hb3
                  rw [HU3.out]
                  obtain ⟨j0, j1⟩ := jr_cells HM3.out.kj
                  refine wpAnyH_ready (rs := [5]) (by kernel_rfl) (by simp) (AllReadyH.cons rfl (fun K hK => ?zo29_0) AllReadyH.nil)
                  case zo29_0 =>
                    have hzu : w.heap.size + 1 ≤ U3.heap.size := by have := HM3.out.kj.lt; have := HM3.out.big; omega
                    have hXn : ∀ y, Value.ownBlock (.slice X rs.length c) = some y → y ≠ gj ∧ y ≠ g ∧ y ≠ w.heap.size := fun y hy => ⟨(fun e => by subst e; exact own_blk_ne HM3.out.own HM3.out.kj (by decide) hy), (fun e => by have := HM3.out.own.far y hy; omega), (fun e => by have := HM3.out.own.far y hy; omega)⟩
                    refine step_app_row (K := RK) Try.underlying23 HI0.out.1 HI0.out.2.1 HI0.out.2.2.1 HI0.out.2.2.2.1 HI0.out.2.2.2.2 (by decide) rfl (.tmp 45) (.tmp 48) rfl _ (w.heap.size + 1) X c rs (by rw [HM3.out.len_]; first | done | rfl) _ _ [(⟨ri, rt⟩ : RD)] rfl HM3.out.own HONE.out (by rw [HM3.out.len_]; show n + 1 ≤ 1000000; omega) hzu (fun e => by cases e) ?_
                    intro v U4 hA
                    obtain ⟨X5, x5, rfl, ho5⟩ := hA.own
                    have hg6 := hA.grown
                    have hbv := hA.below
                    have hl5 : (rs ++ [(⟨ri, rt⟩ : RD)]).length = n + 1 := by rw [List.length_append, HM3.out.len_]; rfl
                    have hrt2 : rt.size ≤ 10 := hrt
                    have hf5 : FitR (rs ++ [(⟨ri, rt⟩ : RD)]) := HM3.out.fit.snoc (by show rt.size ≤ maxLen; unfold maxLen; omega)
                    have hgd : w.grownBy U4 (some g) := ⟨hbv.os.trans HM3.out.grown.os, hbv.tape.trans HM3.out.grown.tape, hbv.output.trans HM3.out.grown.output, Nat.le_trans HM3.out.grown.size hbv.size, fun i hi hn => (hbv.block i (by omega)).trans (HM3.out.grown.block i hi hn)⟩
                    have HRv : Hid (Rd U4 B g A len cap qr) := HM3.out.rd.grown hg6 (fun k hk => ⟨by have := HM3.out.own.far k hk; omega, (hXn k hk).2.1⟩)
                    have HKRv : Hid (Blk U4 w.heap.size 25 #[.slice none 0 0, .int .i64 0]) := HM3.out.kr.grown hg6 (fun e => (hXn _ e.symm).2.2 rfl)
                    have HKJv : Hid (Blk U4 gj 25 #[.slice X n c, .int .i64 s]) := HM3.out.kj.grown hg6 (fun e => (hXn _ e.symm).1 rfl)
                    have HOv := Lib.hid ho5
                    have HGv := Lib.hid hgd
                    have HL5 := Lib.hid hl5
                    have HF5 := Lib.hid hf5
                    rw [HL5.out]
                    clear hA ho5 hg6 hbv hgd hl5 hf5 hXn
                    refine hK.out _ _ (trivial) (fun hHeld => ?_)
                    clear hK K
                    change wpAnyH _ _ _ _ _ _ _ (Act.put _ (some 49) _) _
                    simp only [Act.put, List.setIfInBounds_toArray, List.set_cons_zero, List.set_cons_succ]
                    have jf := blk_frozen HKJv.out
                    obtain ⟨j0, j1⟩ := jr_cells HKJv.out
                    refine wpAnyH_take (i := 6) (v := ?zv30) rfl (by kernel_rfl) (by kernel_rfl) (by kernel_rfl) (fun _ _ _ h => h) (Or.inl ⟨by kernel_rfl, ?zy30⟩) (by assumption) ?zr30
                    case zy30 => (intro w hSw; (try dsimp only at hSw); go_simp; try with_reducible rfl)
                    change wpAnyH _ _ _ _ _ _ _ (Act.put _ (some 50) _) _
                    simp only [Act.put, List.setIfInBounds_toArray, List.set_cons_zero, List.set_cons_succ]
                    refine wpAnyH_ready (rs := [7]) (by kernel_rfl) (by simp) (AllReadyH.cons rfl (fun K hK => ?zo31_0) AllReadyH.nil)
                    case zo31_0 =>
                      go_simp
                      obtain ⟨ww, HWW⟩ : ∃ Q0, Hid (U4.setCell ⟨gj, 0, none⟩ (.slice X5 (n + 1) x5) = Q0) := ⟨_, rfl⟩
                      have hbg : w.heap.size + 1 ≤ gj := HM3.out.big
                      have HNw : Hid (Jn w B g A len cap qr gj X5 x5 (n + 1) (rs ++ [(⟨ri, rt⟩ : RD)]) s ww) := by rw [← HWW.out]; exact ⟨HRv.out.setOther (q := ⟨gj, 0, none⟩) (by show B ≤ gj; omega) (by show gj ≠ g; omega) _, grown_setNew HGv.out ⟨gj, 0, none⟩ (by show w.heap.size ≤ gj; omega) _, HKRv.out.setOther (p := ⟨gj, 0, none⟩) (by show gj ≠ _; omega) _, HKJv.out.setOwn 0 _, rown_block HOv.out fun y hy => Below.heap_setCell _ ⟨gj, 0, none⟩ _ y (own_ne_blk HOv.out HKJv.out (by decide) y hy), HF5.out, HL5.out, by omega, HM3.out.s0, HM3.out.s1, HM3.out.big⟩
                      rw [HWW.out]
                      refine hK.out _ _ (trivial) (fun hHeld => ?_)
                      clear hK K
                      (try simp only [Act.put])
                      clear jf j0 j1
                      refine wpAnyH_done (by kernel_rfl) ?_ _
                      obtain ⟨j0, j1⟩ := jr_cells HNw.out.kj
                      obtain ⟨z0, z1⟩ := jr_cells HNw.out.kr
                      have zf := blk_frozen HNw.out.kr
                      go_wp2
                      obtain ⟨Y, HY⟩ : ∃ Q0, Hid ((ww.setCell ⟨w.heap.size, 0, none⟩ (.slice X5 (n + 1) x5)).setCell ⟨w.heap.size, 1, none⟩ (.int .i64 s) = Q0) := ⟨_, rfl⟩
                      have KY : Hid (Blk Y w.heap.size 25 #[.slice X5 (n + 1) x5, .int .i64 s]) := by rw [← HY.out]; exact blk_two HNw.out.kr _ _
                      have HRY : Hid (Rd Y B g A len cap qr) := by rw [← HY.out]; exact (HNw.out.rd.setOther (q := ⟨w.heap.size, 0, none⟩) (by show B ≤ w.heap.size; omega) (by show w.heap.size ≠ g; omega) _).setOther (q := ⟨w.heap.size, 1, none⟩) (by show B ≤ w.heap.size; omega) (by show w.heap.size ≠ g; omega) _
                      have HGY : Hid (w.grownBy Y (some g)) := by rw [← HY.out]; exact grown_setNew (grown_setNew HNw.out.grown ⟨w.heap.size, 0, none⟩ (Nat.le_refl _) _) ⟨w.heap.size, 1, none⟩ (Nat.le_refl _) _
                      have HOY : Hid (OwnRow RK Y w.heap.size X5 x5 (rs ++ [(⟨ri, rt⟩ : RD)])) := by rw [← HY.out]; exact (rown_two HNw.out.own HNw.out.kr _ _).base_le (by omega)
                      rw [HY.out]
                      obtain ⟨y0, y1⟩ := jr_cells KY.out
                      exact bodyPost_ret (v := journalV X5 (n + 1) x5 s) (by simp [results, Try.results32, go_sem, y0, y1]) rfl ⟨X5, x5, (rs ++ [(⟨ri, rt⟩ : RD)]), s, qr, by rw [HNw.out.len_], HOY.out, HNw.out.fit, by rw [HNw.out.len_]; exact HNw.out.few, HNw.out.s0, HNw.out.s1, by omega, HRY.out, HGY.out⟩
            case zo26_1 =>
              go_simp
              go_at_call 38
              refine (drawrec_any HM0.out.rd (by omega)).mono ?_
              rintro e U1 ⟨rr, qr, rfl, hrt, hri0, hri1, hqr, hR1, hg1⟩
              obtain ⟨ri, rt⟩ := rr
              have HM1 := Lib.hid (HM0.out.pick hgl hR1 hg1)
              clear hR1 hg1
              refine hK.out _ _ (trivial) (fun hHeld => ?_)
              clear hK K
              (try simp only [Act.put, List.setIfInBounds_toArray, List.set_cons_zero, List.set_cons_succ])
              obtain ⟨j0, j1⟩ := jr_cells HM1.out.kj
              refine wpAnyH_ready (rs := [1, 4]) (by kernel_rfl) (by simp) (AllReadyH.cons rfl (fun K hK => ?zo32_0) (AllReadyH.cons rfl (fun K hK => ?zo32_1) AllReadyH.nil))
              case zo32_0 =>
                go_simp
                refine hK.out _ _ (trivial) (fun hHeld => ?_)
                clear hK K
                (try simp only [Act.put, List.setIfInBounds_toArray, List.set_cons_zero, List.set_cons_succ])
                refine wpAnyH_ready (rs := [4]) (by kernel_rfl) (by simp) (AllReadyH.cons rfl (fun K hK => ?zo33_0) AllReadyH.nil)
                case zo33_0 =>
                  go_simp
                  refine hK.out _ _ (trivial) (fun hHeld => ?_)
                  clear hK K
                  (try simp only [Act.put, List.setIfInBounds_toArray, List.set_cons_zero, List.set_cons_succ])
                  obtain ⟨U3, HU3⟩ : ∃ U, Hid (U1.alloc (.cells #[.int .i64 ri, .string rt] 36) = U) := ⟨_, rfl⟩
                  have hb3 : Below U1.heap.size U1 U3 := by rw [← HU3.out]; exact (Below.refl _ _).alloc (Nat.le_refl _) _
                  have HM3 := Lib.hid (HM1.out.then_ hb3)
                  have HONE : Hid (RowAt RK U3 U3.heap.size (some ⟨U1.heap.size, 0, none⟩) [(⟨ri, rt⟩ : RD)]) := by rw [← HU3.out]; exact one_newR RK U1 ⟨ri, rt⟩ _
                  clear hb3
                  rw [HU3.out]
                  obtain ⟨j0, j1⟩ := jr_cells HM3.out.kj
                  refine wpAnyH_ready (rs := [5]) (by kernel_rfl) (by simp) (AllReadyH.cons rfl (fun K hK => ?zo34_0) AllReadyH.nil)
                  case zo34_0 =>
                    have hzu : w.heap.size + 1 ≤ U3.heap.size := by have := HM3.out.kj.lt; have := HM3.out.big; omega
                    have hXn : ∀ y, Value.ownBlock (.slice X rs.length c) = some y → y ≠ gj ∧ y ≠ g ∧ y ≠ w.heap.size := fun y hy => ⟨(fun e => by subst e; exact own_blk_ne HM3.out.own HM3.out.kj (by decide) hy), (fun e => by have := HM3.out.own.far y hy; omega), (fun e => by have := HM3.out.own.far y hy; omega)⟩
                    refine step_app_row (K := RK) Try.underlying23 HI0.out.1 HI0.out.2.1 HI0.out.2.2.1 HI0.out.2.2.2.1 HI0.out.2.2.2.2 (by decide) rfl (.tmp 45) (.tmp 48) rfl _ (w.heap.size + 1) X c rs (by rw [HM3.out.len_]; first | done | rfl) _ _ [(⟨ri, rt⟩ : RD)] rfl HM3.out.own HONE.out (by rw [HM3.out.len_]; show n + 1 ≤ 1000000; omega) hzu (fun e => by cases e) ?_
                    intro v U4 hA
                    obtain ⟨X5, x5, rfl, ho5⟩ := hA.own
                    have hg6 := hA.grown
                    have hbv := hA.below
                    have hl5 : (rs ++ [(⟨ri, rt⟩ : RD)]).length = n + 1 := by rw [List.length_append, HM3.out.len_]; rfl
                    have hrt2 : rt.size ≤ 10 := hrt
                    have hf5 : FitR (rs ++ [(⟨ri, rt⟩ : RD)]) := HM3.out.fit.snoc (by show rt.size ≤ maxLen; unfold maxLen; omega)
                    have hgd : w.grownBy U4 (some g) := ⟨hbv.os.trans HM3.out.grown.os, hbv.tape.trans HM3.out.grown.tape, hbv.output.trans HM3.out.grown.output, Nat.le_trans HM3.out.grown.size hbv.size, fun i hi hn => (hbv.block i (by omega)).trans (HM3.out.grown.block i hi hn)⟩
                    have HRv : Hid (Rd U4 B g A len cap qr) := HM3.out.rd.grown hg6 (fun k hk => ⟨by have := HM3.out.own.far k hk; omega, (hXn k hk).2.1⟩)
                    have HKRv : Hid (Blk U4 w.heap.size 25 #[.slice none 0 0, .int .i64 0]) := HM3.out.kr.grown hg6 (fun e => (hXn _ e.symm).2.2 rfl)
                    have HKJv : Hid (Blk U4 gj 25 #[.slice X n c, .int .i64 s]) := HM3.out.kj.grown hg6 (fun e => (hXn _ e.symm).1 rfl)
                    have HOv := Lib.hid ho5
                    have HGv := Lib.hid hgd
                    have HL5 := Lib.hid hl5
                    have HF5 := Lib.hid hf5
                    rw [HL5.out]
                    clear hA ho5 hg6 hbv hgd hl5 hf5 hXn
                    refine hK.out _ _ (trivial) (fun hHeld => ?_)
                    clear hK K
                    change wpAnyH _ _ _ _ _ _ _ (Act.put _ (some 49) _) _
                    simp only [Act.put, List.setIfInBounds_toArray, List.set_cons_zero, List.set_cons_succ]
                    have jf := blk_frozen HKJv.out
                    obtain ⟨j0, j1⟩ := jr_cells HKJv.out
                    refine wpAnyH_take (i := 6) (v := ?zv35) rfl (by kernel_rfl) (by kernel_rfl) (by kernel_rfl) (fun _ _ _ h => h) (Or.inl ⟨by kernel_rfl, ?zy35⟩) (by assumption) ?zr35
                    case zy35 => (intro w hSw; (try dsimp only at hSw); go_simp; try with_reducible rfl)
                    change wpAnyH _ _ _ _ _ _ _ (Act.put _ (some 50) _) _
                    simp only [Act.put, List.setIfInBounds_toArray, List.set_cons_zero, List.set_cons_succ]
                    refine wpAnyH_ready (rs := [7]) (by kernel_rfl) (by simp) (AllReadyH.cons rfl (fun K hK => ?zo36_0) AllReadyH.nil)
                    case zo36_0 =>
                      go_simp
                      obtain ⟨ww, HWW⟩ : ∃ Q0, Hid (U4.setCell ⟨gj, 0, none⟩ (.slice X5 (n + 1) x5) = Q0) := ⟨_, rfl⟩
                      have hbg : w.heap.size + 1 ≤ gj := HM3.out.big
                      have HNw : Hid (Jn w B g A len cap qr gj X5 x5 (n + 1) (rs ++ [(⟨ri, rt⟩ : RD)]) s ww) := by rw [← HWW.out]; exact ⟨HRv.out.setOther (q := ⟨gj, 0, none⟩) (by show B ≤ gj; omega) (by show gj ≠ g; omega) _, grown_setNew HGv.out ⟨gj, 0, none⟩ (by show w.heap.size ≤ gj; omega) _, HKRv.out.setOther (p := ⟨gj, 0, none⟩) (by show gj ≠ _; omega) _, HKJv.out.setOwn 0 _, rown_block HOv.out fun y hy => Below.heap_setCell _ ⟨gj, 0, none⟩ _ y (own_ne_blk HOv.out HKJv.out (by decide) y hy), HF5.out, HL5.out, by omega, HM3.out.s0, HM3.out.s1, HM3.out.big⟩
                      rw [HWW.out]
                      refine hK.out _ _ (trivial) (fun hHeld => ?_)
                      clear hK K
                      (try simp only [Act.put])
                      clear jf j0 j1
                      refine wpAnyH_done (by kernel_rfl) ?_ _
                      obtain ⟨j0, j1⟩ := jr_cells HNw.out.kj
                      obtain ⟨z0, z1⟩ := jr_cells HNw.out.kr
                      have zf := blk_frozen HNw.out.kr
                      go_wp2
                      obtain ⟨Y, HY⟩ : ∃ Q0, Hid ((ww.setCell ⟨w.heap.size, 0, none⟩ (.slice X5 (n + 1) x5)).setCell ⟨w.heap.size, 1, none⟩ (.int .i64 s) = Q0) := ⟨_, rfl⟩
                      have KY : Hid (Blk Y w.heap.size 25 #[.slice X5 (n + 1) x5, .int .i64 s]) := by rw [← HY.out]; exact blk_two HNw.out.kr _ _
                      have HRY : Hid (Rd Y B g A len cap qr) := by rw [← HY.out]; exact (HNw.out.rd.setOther (q := ⟨w.heap.size, 0, none⟩) (by show B ≤ w.heap.size; omega) (by show w.heap.size ≠ g; omega) _).setOther (q := ⟨w.heap.size, 1, none⟩) (by show B ≤ w.heap.size; omega) (by show w.heap.size ≠ g; omega) _
                      have HGY : Hid (w.grownBy Y (some g)) := by rw [← HY.out]; exact grown_setNew (grown_setNew HNw.out.grown ⟨w.heap.size, 0, none⟩ (Nat.le_refl _) _) ⟨w.heap.size, 1, none⟩ (Nat.le_refl _) _
                      have HOY : Hid (OwnRow RK Y w.heap.size X5 x5 (rs ++ [(⟨ri, rt⟩ : RD)])) := by rw [← HY.out]; exact (rown_two HNw.out.own HNw.out.kr _ _).base_le (by omega)
                      rw [HY.out]
                      obtain ⟨y0, y1⟩ := jr_cells KY.out
                      exact bodyPost_ret (v := journalV X5 (n + 1) x5 s) (by simp [results, Try.results32, go_sem, y0, y1]) rfl ⟨X5, x5, (rs ++ [(⟨ri, rt⟩ : RD)]), s, qr, by rw [HNw.out.len_], HOY.out, HNw.out.fit, by rw [HNw.out.len_]; exact HNw.out.few, HNw.out.s0, HNw.out.s1, by omega, HRY.out, HGY.out⟩
              case zo32_1 =>
                go_simp
                refine hK.out _ _ (trivial) (fun hHeld => ?_)
                clear hK K
                (try simp only [Act.put, List.setIfInBounds_toArray, List.set_cons_zero, List.set_cons_succ])
                obtain ⟨U2, HU2⟩ : ∃ U, Hid (U1.alloc (.cells #[.int .i64 ri, .string rt] 36) = U) := ⟨_, rfl⟩
                have hb2 : Below U1.heap.size U1 U2 := by rw [← HU2.out]; exact (Below.refl _ _).alloc (Nat.le_refl _) _
                have HM2 := Lib.hid (HM1.out.then_ hb2)
                have HONE : Hid (RowAt RK U2 U2.heap.size (some ⟨U1.heap.size, 0, none⟩) [(⟨ri, rt⟩ : RD)]) := by rw [← HU2.out]; exact one_newR RK U1 ⟨ri, rt⟩ _
                clear hb2
                rw [HU2.out]
                obtain ⟨j0, j1⟩ := jr_cells HM2.out.kj
                refine wpAnyH_ready (rs := [1]) (by kernel_rfl) (by simp) (AllReadyH.cons rfl (fun K hK => ?zo37_0) AllReadyH.nil)
                case zo37_0 =>
                  go_simp
                  refine hK.out _ _ (trivial) (fun hHeld => ?_)
                  clear hK K
                  (try simp only [Act.put, List.setIfInBounds_toArray, List.set_cons_zero, List.set_cons_succ])
                  refine wpAnyH_ready (rs := [5]) (by kernel_rfl) (by simp) (AllReadyH.cons rfl (fun K hK => ?zo38_0) AllReadyH.nil)
                  case zo38_0 =>
                    have hzu : w.heap.size + 1 ≤ U2.heap.size := by have := HM2.out.kj.lt; have := HM2.out.big; omega
                    have hXn : ∀ y, Value.ownBlock (.slice X rs.length c) = some y → y ≠ gj ∧ y ≠ g ∧ y ≠ w.heap.size := fun y hy => ⟨(fun e => by subst e; exact own_blk_ne HM2.out.own HM2.out.kj (by decide) hy), (fun e => by have := HM2.out.own.far y hy; omega), (fun e => by have := HM2.out.own.far y hy; omega)⟩
                    refine step_app_row (K := RK) Try.underlying23 HI0.out.1 HI0.out.2.1 HI0.out.2.2.1 HI0.out.2.2.2.1 HI0.out.2.2.2.2 (by decide) rfl (.tmp 45) (.tmp 48) rfl _ (w.heap.size + 1) X c rs (by rw [HM2.out.len_]; first | done | rfl) _ _ [(⟨ri, rt⟩ : RD)] rfl HM2.out.own HONE.out (by rw [HM2.out.len_]; show n + 1 ≤ 1000000; omega) hzu (fun e => by cases e) ?_
                    intro v U4 hA
                    obtain ⟨X5, x5, rfl, ho5⟩ := hA.own
                    have hg6 := hA.grown
                    have hbv := hA.below
                    have hl5 : (rs ++ [(⟨ri, rt⟩ : RD)]).length = n + 1 := by rw [List.length_append, HM2.out.len_]; rfl
                    have hrt2 : rt.size ≤ 10 := hrt
                    have hf5 : FitR (rs ++ [(⟨ri, rt⟩ : RD)]) := HM2.out.fit.snoc (by show rt.size ≤ maxLen; unfold maxLen; omega)
                    have hgd : w.grownBy U4 (some g) := ⟨hbv.os.trans HM2.out.grown.os, hbv.tape.trans HM2.out.grown.tape, hbv.output.trans HM2.out.grown.output, Nat.le_trans HM2.out.grown.size hbv.size, fun i hi hn => (hbv.block i (by omega)).trans (HM2.out.grown.block i hi hn)⟩
                    have HRv : Hid (Rd U4 B g A len cap qr) := HM2.out.rd.grown hg6 (fun k hk => ⟨by have := HM2.out.own.far k hk; omega, (hXn k hk).2.1⟩)
                    have HKRv : Hid (Blk U4 w.heap.size 25 #[.slice none 0 0, .int .i64 0]) := HM2.out.kr.grown hg6 (fun e => (hXn _ e.symm).2.2 rfl)
                    have HKJv : Hid (Blk U4 gj 25 #[.slice X n c, .int .i64 s]) := HM2.out.kj.grown hg6 (fun e => (hXn _ e.symm).1 rfl)
                    have HOv := Lib.hid ho5
                    have HGv := Lib.hid hgd
                    have HL5 := Lib.hid hl5
                    have HF5 := Lib.hid hf5
                    rw [HL5.out]
                    clear hA ho5 hg6 hbv hgd hl5 hf5 hXn
                    refine hK.out _ _ (trivial) (fun hHeld => ?_)
                    clear hK K
                    change wpAnyH _ _ _ _ _ _ _ (Act.put _ (some 49) _) _
                    simp only [Act.put, List.setIfInBounds_toArray, List.set_cons_zero, List.set_cons_succ]
                    have jf := blk_frozen HKJv.out
                    obtain ⟨j0, j1⟩ := jr_cells HKJv.out
                    refine wpAnyH_take (i := 6) (v := ?zv39) rfl (by kernel_rfl) (by kernel_rfl) (by kernel_rfl) (fun _ _ _ h => h) (Or.inl ⟨by kernel_rfl, ?zy39⟩) (by assumption) ?zr39
                    case zy39 => (intro w hSw; (try dsimp only at hSw); go_simp; try with_reducible rfl)
                    change wpAnyH _ _ _ _ _ _ _ (Act.put _ (some 50) _) _
                    simp only [Act.put, List.setIfInBounds_toArray, List.set_cons_zero, List.set_cons_succ]
                    refine wpAnyH_ready (rs := [7]) (by kernel_rfl) (by simp) (AllReadyH.cons rfl (fun K hK => ?zo40_0) AllReadyH.nil)
                    case zo40_0 =>
                      go_simp
                      obtain ⟨ww, HWW⟩ : ∃ Q0, Hid (U4.setCell ⟨gj, 0, none⟩ (.slice X5 (n + 1) x5) = Q0) := ⟨_, rfl⟩
                      have hbg : w.heap.size + 1 ≤ gj := HM2.out.big
                      have HNw : Hid (Jn w B g A len cap qr gj X5 x5 (n + 1) (rs ++ [(⟨ri, rt⟩ : RD)]) s ww) := by rw [← HWW.out]; exact ⟨HRv.out.setOther (q := ⟨gj, 0, none⟩) (by show B ≤ gj; omega) (by show gj ≠ g; omega) _, grown_setNew HGv.out ⟨gj, 0, none⟩ (by show w.heap.size ≤ gj; omega) _, HKRv.out.setOther (p := ⟨gj, 0, none⟩) (by show gj ≠ _; omega) _, HKJv.out.setOwn 0 _, rown_block HOv.out fun y hy => Below.heap_setCell _ ⟨gj, 0, none⟩ _ y (own_ne_blk HOv.out HKJv.out (by decide) y hy), HF5.out, HL5.out, by omega, HM2.out.s0, HM2.out.s1, HM2.out.big⟩
                      rw [HWW.out]
                      refine hK.out _ _ (trivial) (fun hHeld => ?_)
                      clear hK K
                      (try simp only [Act.put])
                      clear jf j0 j1
                      refine wpAnyH_done (by kernel_rfl) ?_ _
                      obtain ⟨j0, j1⟩ := jr_cells HNw.out.kj
                      obtain ⟨z0, z1⟩ := jr_cells HNw.out.kr
                      have zf := blk_frozen HNw.out.kr
                      go_wp2
                      obtain ⟨Y, HY⟩ : ∃ Q0, Hid ((ww.setCell ⟨w.heap.size, 0, none⟩ (.slice X5 (n + 1) x5)).setCell ⟨w.heap.size, 1, none⟩ (.int .i64 s) = Q0) := ⟨_, rfl⟩
                      have KY : Hid (Blk Y w.heap.size 25 #[.slice X5 (n + 1) x5, .int .i64 s]) := by rw [← HY.out]; exact blk_two HNw.out.kr _ _
                      have HRY : Hid (Rd Y B g A len cap qr) := by rw [← HY.out]; exact (HNw.out.rd.setOther (q := ⟨w.heap.size, 0, none⟩) (by show B ≤ w.heap.size; omega) (by show w.heap.size ≠ g; omega) _).setOther (q := ⟨w.heap.size, 1, none⟩) (by show B ≤ w.heap.size; omega) (by show w.heap.size ≠ g; omega) _
                      have HGY : Hid (w.grownBy Y (some g)) := by rw [← HY.out]; exact grown_setNew (grown_setNew HNw.out.grown ⟨w.heap.size, 0, none⟩ (Nat.le_refl _) _) ⟨w.heap.size, 1, none⟩ (Nat.le_refl _) _
                      have HOY : Hid (OwnRow RK Y w.heap.size X5 x5 (rs ++ [(⟨ri, rt⟩ : RD)])) := by rw [← HY.out]; exact (rown_two HNw.out.own HNw.out.kr _ _).base_le (by omega)
                      rw [HY.out]
                      obtain ⟨y0, y1⟩ := jr_cells KY.out
                      exact bodyPost_ret (v := journalV X5 (n + 1) x5 s) (by simp [results, Try.results32, go_sem, y0, y1]) rfl ⟨X5, x5, (rs ++ [(⟨ri, rt⟩ : RD)]), s, qr, by rw [HNw.out.len_], HOY.out, HNw.out.fit, by rw [HNw.out.len_]; exact HNw.out.few, HNw.out.s0, HNw.out.s1, by omega, HRY.out, HGY.out⟩
          · have hyi1 : ((y : Int) == 1) = false := by rw [beq_eq_false_iff_ne]; omega
            obtain ⟨j0, j1⟩ := jr_cells HNt.out.kj
            obtain ⟨z0, z1⟩ := jr_cells HNt.out.kr
            have zf := blk_frozen HNt.out.kr
            go_wp2
            obtain ⟨Y, HY⟩ : ∃ Q0, Hid ((wt.setCell ⟨w.heap.size, 0, none⟩ (.slice X n c)).setCell ⟨w.heap.size, 1, none⟩ (.int .i64 s) = Q0) := ⟨_, rfl⟩
            have KY : Hid (Blk Y w.heap.size 25 #[.slice X n c, .int .i64 s]) := by rw [← HY.out]; exact blk_two HNt.out.kr _ _
            have HRY : Hid (Rd Y B g A len cap qt) := by rw [← HY.out]; exact (HNt.out.rd.setOther (q := ⟨w.heap.size, 0, none⟩) (by show B ≤ w.heap.size; omega) (by show w.heap.size ≠ g; omega) _).setOther (q := ⟨w.heap.size, 1, none⟩) (by show B ≤ w.heap.size; omega) (by show w.heap.size ≠ g; omega) _
            have HGY : Hid (w.grownBy Y (some g)) := by rw [← HY.out]; exact grown_setNew (grown_setNew HNt.out.grown ⟨w.heap.size, 0, none⟩ (Nat.le_refl _) _) ⟨w.heap.size, 1, none⟩ (Nat.le_refl _) _
            have HOY : Hid (OwnRow RK Y w.heap.size X c rs) := by rw [← HY.out]; exact (rown_two HNt.out.own HNt.out.kr _ _).base_le (by omega)
            rw [HY.out]
            obtain ⟨y0, y1⟩ := jr_cells KY.out
            exact bodyPost_ret (v := journalV X n c s) (by simp [results, Try.results32, go_sem, y0, y1]) rfl ⟨X, c, rs, s, qt, by rw [HNt.out.len_], HOY.out, HNt.out.fit, by rw [HNt.out.len_]; exact HNt.out.few, HNt.out.s0, HNt.out.s1, by omega, HRY.out, HGY.out⟩
  · have hxi : ((x : Int) == 0) = false := by rw [beq_eq_false_iff_ne]; omega
    go_wp2_with fail
    go_loopw [5] (fun i w' => ∃ (k q : Nat) (X : Option Addr) (c n : Nat) (rs : List RD) (s : Int), k ≤ m ∧ i = .int .i64 k ∧ q ≤ qs + 18 * k ∧ n ≤ 30 ∧ Hid (Jn w B g A len cap q gj X c n rs s w')) (fun i _ => m - (intOf i).toNat)
    case atStart => exact ⟨0, qs, _, _, _, _, _, Nat.zero_le _, rfl, by omega, by omega, HNs⟩
    case round =>
      obtain ⟨k, q, X, c, n, rs, s, hk, rfl, hq, hn30, HN⟩ := hrel
      have hs0 := HN.out.s0
      have hs1 := HN.out.s1
      have hbj := HN.out.big
      by_cases hlt : k < m
      · have hki : (k : Int) < (m : Int) := by omega
        go_upto_region 8 with fail
        go_cut [6, 7] (fun s6 s7 wx => ∃ (gx : Nat) (Xa : Option Addr) (ca na : Nat) (ra : List RD) (sa : Int) (ok : Bool) (qa : Nat), s6 = .pointer (some ⟨gx, 0, none⟩) ∧ s7 = .bool ok ∧ qa ≤ q + 17 ∧ w.heap.size + 1 ≤ gx ∧ gx ≠ gj ∧ Hid (Jn w B g A len cap qa gj X c n rs s wx) ∧ Hid (Blk wx gx 25 #[.slice Xa na ca, .int .i64 sa]) ∧ Hid (OwnRow RK wx (w.heap.size + 1) Xa ca ra) ∧ FitR ra ∧ ra.length = na ∧ na ≤ 30 ∧ -1 ≤ sa ∧ sa ≤ 30)
        case first =>
          (try go_wp2_with fail)
          refine wp_region_held_drew (S := (fun w' => w'.cell? ⟨gj, 0, none⟩ = some (.slice X n c) ∧ w'.cell? ⟨gj, 1, none⟩ = some (.int .i64 s))) (by kernel_rfl) (jr_cells HN.out.kj) (fun hHeld => ?_)
          obtain ⟨U0, HU0⟩ : ∃ U, Hid (wr.drew = U) := ⟨_, rfl⟩
          have HM0 : Hid (Jn w B g A len cap q gj X c n rs s U0) := by rw [← HU0.out]; exact HN.out.drew
          rw [HU0.out] at hHeld ⊢
          refine wpAnyH_take (i := 0) (v := ?zv41) rfl (by kernel_rfl) (by kernel_rfl) (by kernel_rfl) (fun _ _ _ h => h) (Or.inl ⟨by kernel_rfl, ?zy41⟩) (by assumption) ?zr41
          case zy41 => (intro w hSw; (try dsimp only at hSw); go_simp; try with_reducible rfl)
          change wpAnyH _ _ _ _ _ _ _ (Act.put _ (some 21) _) _
          simp only [Act.put, List.setIfInBounds_toArray, List.set_cons_zero, List.set_cons_succ]
          refine wpAnyH_take (i := 1) (v := ?zv42) rfl (by kernel_rfl) (by kernel_rfl) (by kernel_rfl) (fun _ _ _ h => h) (Or.inl ⟨by kernel_rfl, ?zy42⟩) (by assumption) ?zr42
          case zy42 => (intro w hSw; (try dsimp only at hSw); go_simp; try with_reducible rfl)
          change wpAnyH _ _ _ _ _ _ _ (Act.put _ (some 22) _) _
          simp only [Act.put, List.setIfInBounds_toArray, List.set_cons_zero, List.set_cons_succ]
          refine wpAnyH_ready (rs := [2, 7]) (by kernel_rfl) (by simp) (AllReadyH.cons rfl (fun K hK => ?zo43_0) (AllReadyH.cons rfl (fun K hK => ?zo43_1) AllReadyH.nil))
          case zo43_0 =>
            go_simp
            go_at_call 38
            refine (drawrec_any HM0.out.rd (by omega)).mono ?_
            rintro e U1 ⟨rr, qr, rfl, hrt, hri0, hri1, hqr, hR1, hg1⟩
            have HM1 := Lib.hid (HM0.out.pick hgl hR1 hg1)
            have hzz1 : U0.heap.size ≤ U1.heap.size := hg1.size
            clear hR1 hg1
            refine hK.out _ _ (jr_cells HM1.out.kj) (fun hHeld => ?_)
            clear hK K
            (try simp only [Act.put, List.setIfInBounds_toArray, List.set_cons_zero, List.set_cons_succ])
            refine wpAnyH_ready (rs := [3, 7]) (by kernel_rfl) (by simp) (AllReadyH.cons rfl (fun K hK => ?zo44_0) (AllReadyH.cons rfl (fun K hK => ?zo44_1) AllReadyH.nil))
            case zo44_0 =>
              go_simp
              go_at_call 16
              have CA := sjadd_any X c s rs rr U1 HM1.out.jat (by unfold maxLen; omega)
              rw [HM1.out.len_] at CA
              refine CA.mono ?_
              rintro e U2 ⟨Xa, ca, rfl, hoa, hfa, hb2⟩
              have HM2 := Lib.hid (HM1.out.then_ hb2)
              have HOA2 : Hid (OwnRow RK U2 (w.heap.size + 1) Xa ca (addR rs s rr)) := hoa.base_le (by have := HM1.out.kj.lt; have := HM1.out.big; omega)
              have HFA := Lib.hid hfa
              have hzz2 : U1.heap.size ≤ U2.heap.size := hb2.size
              clear hoa hfa hb2 CA
              refine hK.out _ _ (jr_cells HM2.out.kj) (fun hHeld => ?_)
              clear hK K
              (try simp only [Act.put, List.setIfInBounds_toArray, List.set_cons_zero, List.set_cons_succ])
              refine wpAnyH_take (i := 4) (v := ?zv45) rfl (by kernel_rfl) (by kernel_rfl) (by kernel_rfl) (fun _ _ _ h => h) (Or.inl ⟨by kernel_rfl, ?zy45⟩) (by assumption) ?zr45
              case zy45 => (intro w hSw; (try dsimp only at hSw); go_simp; try with_reducible rfl)
              change wpAnyH _ _ _ _ _ _ _ (Act.put _ (some 20) _) _
              simp only [Act.put, List.setIfInBounds_toArray, List.set_cons_zero, List.set_cons_succ]
              refine wpAnyH_take (i := 5) (v := ?zv46) rfl (by kernel_rfl) (by kernel_rfl) (by kernel_rfl) (fun _ _ _ h => h) (Or.inl ⟨by kernel_rfl, ?zy46⟩) (by assumption) ?zr46
              case zy46 => (intro w hSw; (try dsimp only at hSw); go_simp; try with_reducible rfl)
              change wpAnyH _ _ _ _ _ _ _ (Act.put _ (some 25) _) _
              simp only [Act.put, List.setIfInBounds_toArray, List.set_cons_zero, List.set_cons_succ]
              refine wpAnyH_take (i := 6) (v := ?zv47) rfl (by kernel_rfl) (by kernel_rfl) (by kernel_rfl) (fun _ _ _ h => h) (Or.inl ⟨by kernel_rfl, ?zy47⟩) (by assumption) ?zr47
              case zy47 => (intro w hSw; (try dsimp only at hSw); go_simp; try with_reducible rfl)
              change wpAnyH _ _ _ _ _ _ _ (Act.put _ (some 26) _) _
              simp only [Act.put, List.setIfInBounds_toArray, List.set_cons_zero, List.set_cons_succ]
              refine wpAnyH_ready (rs := [7]) (by kernel_rfl) (by simp) (AllReadyH.cons rfl (fun K hK => ?zo48_0) AllReadyH.nil)
              case zo48_0 =>
                go_simp
                refine hK.out _ _ (jr_cells (HM2.out.kj.alloc _)) (fun hHeld => ?_)
                clear hK K
                (try simp only [Act.put, List.setIfInBounds_toArray, List.set_cons_zero, List.set_cons_succ])
                obtain ⟨U3, HU3⟩ : ∃ U, Hid (U2.alloc (.cells #[.slice none 0 0, .int .i64 0] 25) = U) := ⟨_, rfl⟩
                have hb3 : Below U2.heap.size U2 U3 := by rw [← HU3.out]; exact (Below.refl _ _).alloc (Nat.le_refl _) _
                have HM3 := Lib.hid (HM2.out.then_ hb3)
                have KX3 : Hid (Blk U3 U2.heap.size 25 #[.slice none 0 0, .int .i64 0]) := by rw [← HU3.out]; exact Blk.new U2 _ _
                have hgx1 : w.heap.size + 1 ≤ U2.heap.size := by have := HM2.out.kj.lt; have := HM2.out.big; omega
                have hgx2 : gj < U2.heap.size := HM2.out.kj.lt
                have hgx3 : g < U2.heap.size := HM2.out.rd.lt
                have hzz3 : U2.heap.size ≤ U3.heap.size := hb3.size
                have HOA3 := Lib.hid (HOA2.out.below hb3)
                clear hb3
                rw [HU3.out] at hHeld ⊢
                refine wpAnyH_ready (rs := [8]) (by kernel_rfl) (by simp) (AllReadyH.cons rfl (fun K hK => ?zo49_0) AllReadyH.nil)
                case zo49_0 =>
                  go_simp
                  obtain ⟨n0, n1⟩ := jr_cells KX3.out
                  have nf := blk_frozen KX3.out
                  obtain ⟨U4, HU4⟩ : ∃ U, Hid (((U3.setCell ⟨U2.heap.size, 0, none⟩ (.slice Xa (List.length (addR rs s rr)) ca)).setCell ⟨U2.heap.size, 1, none⟩ (.int .i64 (addS rs s rr))) = U) := ⟨_, rfl⟩
                  have hgn : g ≠ U2.heap.size := by omega
                  have hMr := (HM3.out.rd.setOther (q := ⟨U2.heap.size, 0, none⟩) (by show B ≤ U2.heap.size; omega) (by show U2.heap.size ≠ g; omega) (.slice Xa (List.length (addR rs s rr)) ca)).setOther (q := ⟨U2.heap.size, 1, none⟩) (by show B ≤ U2.heap.size; omega) (by show U2.heap.size ≠ g; omega) (.int .i64 (addS rs s rr))
                  have HM4 : Hid (Jn w B g A len cap qr gj X c n rs s U4) := by rw [← HU4.out]; exact ⟨hMr, grown_setNew (grown_setNew HM3.out.grown ⟨U2.heap.size, 0, none⟩ (by show w.heap.size ≤ U2.heap.size; omega) _) ⟨U2.heap.size, 1, none⟩ (by show w.heap.size ≤ U2.heap.size; omega) _, (HM3.out.kr.setOther (p := ⟨U2.heap.size, 0, none⟩) (by show U2.heap.size ≠ _; omega) _).setOther (p := ⟨U2.heap.size, 1, none⟩) (by show U2.heap.size ≠ _; omega) _, (HM3.out.kj.setOther (p := ⟨U2.heap.size, 0, none⟩) (by show U2.heap.size ≠ _; omega) _).setOther (p := ⟨U2.heap.size, 1, none⟩) (by show U2.heap.size ≠ _; omega) _, rown_two HM3.out.own KX3.out _ _, HM3.out.fit, HM3.out.len_, HM3.out.few, HM3.out.s0, HM3.out.s1, HM3.out.big⟩
                  have KX4 : Hid (Blk U4 U2.heap.size 25 #[.slice Xa (List.length (addR rs s rr)) ca, .int .i64 (addS rs s rr)]) := by rw [← HU4.out]; exact blk_two KX3.out _ _
                  have HOA4 : Hid (OwnRow RK U4 (w.heap.size + 1) Xa ca (addR rs s rr)) := by rw [← HU4.out]; exact rown_two HOA3.out KX3.out _ _
                  go_simp
                  rw [HU4.out]
                  refine hK.out _ _ (jr_cells HM4.out.kj) (fun hHeld => ?_)
                  clear hK K
                  (try simp only [Act.put])
                  refine wpAnyH_take (i := 9) (v := ?zv50) rfl (by kernel_rfl) (by kernel_rfl) (by kernel_rfl) (fun _ _ _ h => h) (Or.inl ⟨by kernel_rfl, ?zy50⟩) (by assumption) ?zr50
                  case zy50 => (intro w hSw; (try dsimp only at hSw); go_simp; try with_reducible rfl)
                  change wpAnyH _ _ _ _ _ _ _ (Act.put _ (some 7) _) _
                  simp only [Act.put, List.setIfInBounds_toArray, List.set_cons_zero, List.set_cons_succ]
                  refine wpAnyH_done (by kernel_rfl) ?_ _
                  (try go_wp2_with fail)
                  go_meet
                  exact ⟨_, Xa, ca, _, addR rs s rr, addS rs s rr, _, qr, rfl, rfl, by omega, hgx1, by omega, HM4, KX4, HOA4, HFA.out, rfl, Nat.le_trans (addR_len rs s rr) (by omega), (addS_bd rs s rr hs0 hs1).1, (addS_bd rs s rr hs0 hs1).2⟩
            case zo44_1 =>
              go_simp
              refine hK.out _ _ (jr_cells (HM1.out.kj.alloc _)) (fun hHeld => ?_)
              clear hK K
              (try simp only [Act.put, List.setIfInBounds_toArray, List.set_cons_zero, List.set_cons_succ])
              obtain ⟨U2, HU2⟩ : ∃ U, Hid (U1.alloc (.cells #[.slice none 0 0, .int .i64 0] 25) = U) := ⟨_, rfl⟩
              have hb2 : Below U1.heap.size U1 U2 := by rw [← HU2.out]; exact (Below.refl _ _).alloc (Nat.le_refl _) _
              have HM2 := Lib.hid (HM1.out.then_ hb2)
              have KX2 : Hid (Blk U2 U1.heap.size 25 #[.slice none 0 0, .int .i64 0]) := by rw [← HU2.out]; exact Blk.new U1 _ _
              have hgx1 : w.heap.size + 1 ≤ U1.heap.size := by have := HM1.out.kj.lt; have := HM1.out.big; omega
              have hgx2 : gj < U1.heap.size := HM1.out.kj.lt
              have hgx3 : g < U1.heap.size := HM1.out.rd.lt
              have hzz2 : U1.heap.size ≤ U2.heap.size := hb2.size
              clear hb2
              rw [HU2.out] at hHeld ⊢
              refine wpAnyH_ready (rs := [3]) (by kernel_rfl) (by simp) (AllReadyH.cons rfl (fun K hK => ?zo51_0) AllReadyH.nil)
              case zo51_0 =>
                go_simp
                go_at_call 16
                have CA := sjadd_any X c s rs rr U2 HM2.out.jat (by unfold maxLen; omega)
                rw [HM2.out.len_] at CA
                refine CA.mono ?_
                rintro e U3 ⟨Xa, ca, rfl, hoa, hfa, hb3⟩
                have HM3 := Lib.hid (HM2.out.then_ hb3)
                have HOA3 : Hid (OwnRow RK U3 (w.heap.size + 1) Xa ca (addR rs s rr)) := hoa.base_le (by have := HM2.out.kj.lt; have := HM2.out.big; omega)
                have HFA := Lib.hid hfa
                have KX3 := Lib.hid (KX2.out.below hb3 KX2.out.lt)
                have hzz3 : U2.heap.size ≤ U3.heap.size := hb3.size
                clear hoa hfa hb3 CA
                refine hK.out _ _ (jr_cells HM3.out.kj) (fun hHeld => ?_)
                clear hK K
                (try simp only [Act.put, List.setIfInBounds_toArray, List.set_cons_zero, List.set_cons_succ])
                refine wpAnyH_take (i := 4) (v := ?zv52) rfl (by kernel_rfl) (by kernel_rfl) (by kernel_rfl) (fun _ _ _ h => h) (Or.inl ⟨by kernel_rfl, ?zy52⟩) (by assumption) ?zr52
                case zy52 => (intro w hSw; (try dsimp only at hSw); go_simp; try with_reducible rfl)
                change wpAnyH _ _ _ _ _ _ _ (Act.put _ (some 20) _) _
                simp only [Act.put, List.setIfInBounds_toArray, List.set_cons_zero, List.set_cons_succ]
                refine wpAnyH_take (i := 5) (v := ?zv53) rfl (by kernel_rfl) (by kernel_rfl) (by kernel_rfl) (fun _ _ _ h => h) (Or.inl ⟨by kernel_rfl, ?zy53⟩) (by assumption) ?zr53
                case zy53 => (intro w hSw; (try dsimp only at hSw); go_simp; try with_reducible rfl)
                change wpAnyH _ _ _ _ _ _ _ (Act.put _ (some 25) _) _
                simp only [Act.put, List.setIfInBounds_toArray, List.set_cons_zero, List.set_cons_succ]
                refine wpAnyH_take (i := 6) (v := ?zv54) rfl (by kernel_rfl) (by kernel_rfl) (by kernel_rfl) (fun _ _ _ h => h) (Or.inl ⟨by kernel_rfl, ?zy54⟩) (by assumption) ?zr54
                case zy54 => (intro w hSw; (try dsimp only at hSw); go_simp; try with_reducible rfl)
                change wpAnyH _ _ _ _ _ _ _ (Act.put _ (some 26) _) _
                simp only [Act.put, List.setIfInBounds_toArray, List.set_cons_zero, List.set_cons_succ]
                refine wpAnyH_ready (rs := [8]) (by kernel_rfl) (by simp) (AllReadyH.cons rfl (fun K hK => ?zo55_0) AllReadyH.nil)
                case zo55_0 =>
                  go_simp
                  obtain ⟨n0, n1⟩ := jr_cells KX3.out
                  have nf := blk_frozen KX3.out
                  obtain ⟨U4, HU4⟩ : ∃ U, Hid (((U3.setCell ⟨U1.heap.size, 0, none⟩ (.slice Xa (List.length (addR rs s rr)) ca)).setCell ⟨U1.heap.size, 1, none⟩ (.int .i64 (addS rs s rr))) = U) := ⟨_, rfl⟩
                  have hgn : g ≠ U1.heap.size := by omega
                  have hMr := (HM3.out.rd.setOther (q := ⟨U1.heap.size, 0, none⟩) (by show B ≤ U1.heap.size; omega) (by show U1.heap.size ≠ g; omega) (.slice Xa (List.length (addR rs s rr)) ca)).setOther (q := ⟨U1.heap.size, 1, none⟩) (by show B ≤ U1.heap.size; omega) (by show U1.heap.size ≠ g; omega) (.int .i64 (addS rs s rr))
                  have HM4 : Hid (Jn w B g A len cap qr gj X c n rs s U4) := by rw [← HU4.out]; exact ⟨hMr, grown_setNew (grown_setNew HM3.out.grown ⟨U1.heap.size, 0, none⟩ (by show w.heap.size ≤ U1.heap.size; omega) _) ⟨U1.heap.size, 1, none⟩ (by show w.heap.size ≤ U1.heap.size; omega) _, (HM3.out.kr.setOther (p := ⟨U1.heap.size, 0, none⟩) (by show U1.heap.size ≠ _; omega) _).setOther (p := ⟨U1.heap.size, 1, none⟩) (by show U1.heap.size ≠ _; omega) _, (HM3.out.kj.setOther (p := ⟨U1.heap.size, 0, none⟩) (by show U1.heap.size ≠ _; omega) _).setOther (p := ⟨U1.heap.size, 1, none⟩) (by show U1.heap.size ≠ _; omega) _, rown_two HM3.out.own KX3.out _ _, HM3.out.fit, HM3.out.len_, HM3.out.few, HM3.out.s0, HM3.out.s1, HM3.out.big⟩
                  have KX4 : Hid (Blk U4 U1.heap.size 25 #[.slice Xa (List.length (addR rs s rr)) ca, .int .i64 (addS rs s rr)]) := by rw [← HU4.out]; exact blk_two KX3.out _ _
                  have HOA4 : Hid (OwnRow RK U4 (w.heap.size + 1) Xa ca (addR rs s rr)) := by rw [← HU4.out]; exact rown_two HOA3.out KX3.out _ _
                  go_simp
                  rw [HU4.out]
                  refine hK.out _ _ (jr_cells HM4.out.kj) (fun hHeld => ?_)
                  clear hK K
                  (try simp only [Act.put])
                  refine wpAnyH_take (i := 9) (v := ?zv56) rfl (by kernel_rfl) (by kernel_rfl) (by kernel_rfl) (fun _ _ _ h => h) (Or.inl ⟨by kernel_rfl, ?zy56⟩) (by assumption) ?zr56
                  case zy56 => (intro w hSw; (try dsimp only at hSw); go_simp; try with_reducible rfl)
                  change wpAnyH _ _ _ _ _ _ _ (Act.put _ (some 7) _) _
                  simp only [Act.put, List.setIfInBounds_toArray, List.set_cons_zero, List.set_cons_succ]
                  refine wpAnyH_done (by kernel_rfl) ?_ _
                  (try go_wp2_with fail)
                  go_meet
                  exact ⟨_, Xa, ca, _, addR rs s rr, addS rs s rr, _, qr, rfl, rfl, by omega, hgx1, by omega, HM4, KX4, HOA4, HFA.out, rfl, Nat.le_trans (addR_len rs s rr) (by omega), (addS_bd rs s rr hs0 hs1).1, (addS_bd rs s rr hs0 hs1).2⟩
          case zo43_1 =>
            go_simp
            refine hK.out _ _ (jr_cells (HM0.out.kj.alloc _)) (fun hHeld => ?_)
            clear hK K
            (try simp only [Act.put, List.setIfInBounds_toArray, List.set_cons_zero, List.set_cons_succ])
            obtain ⟨U1, HU1⟩ : ∃ U, Hid (U0.alloc (.cells #[.slice none 0 0, .int .i64 0] 25) = U) := ⟨_, rfl⟩
            have hb1 : Below U0.heap.size U0 U1 := by rw [← HU1.out]; exact (Below.refl _ _).alloc (Nat.le_refl _) _
            have HM1 := Lib.hid (HM0.out.then_ hb1)
            have KX1 : Hid (Blk U1 U0.heap.size 25 #[.slice none 0 0, .int .i64 0]) := by rw [← HU1.out]; exact Blk.new U0 _ _
            have hgx1 : w.heap.size + 1 ≤ U0.heap.size := by have := HM0.out.kj.lt; have := HM0.out.big; omega
            have hgx2 : gj < U0.heap.size := HM0.out.kj.lt
            have hgx3 : g < U0.heap.size := HM0.out.rd.lt
            have hzz1 : U0.heap.size ≤ U1.heap.size := hb1.size
            clear hb1
            rw [HU1.out] at hHeld ⊢
            refine wpAnyH_ready (rs := [2]) (by kernel_rfl) (by simp) (AllReadyH.cons rfl (fun K hK => ?zo57_0) AllReadyH.nil)
            case zo57_0 =>
              go_simp
              go_at_call 38
              refine (drawrec_any HM1.out.rd (by omega)).mono ?_
              rintro e U2 ⟨rr, qr, rfl, hrt, hri0, hri1, hqr, hR2, hg2⟩
              have HM2 := Lib.hid (HM1.out.pick hgl hR2 hg2)
              have KX2 := Lib.hid (KX1.out.grown hg2 (fun e => by injection e with e; omega))
              have hzz2 : U1.heap.size ≤ U2.heap.size := hg2.size
              clear hR2 hg2
              refine hK.out _ _ (jr_cells HM2.out.kj) (fun hHeld => ?_)
              clear hK K
              (try simp only [Act.put, List.setIfInBounds_toArray, List.set_cons_zero, List.set_cons_succ])
              refine wpAnyH_ready (rs := [3]) (by kernel_rfl) (by simp) (AllReadyH.cons rfl (fun K hK => ?zo58_0) AllReadyH.nil)
              case zo58_0 =>
                go_simp
                go_at_call 16
                have CA := sjadd_any X c s rs rr U2 HM2.out.jat (by unfold maxLen; omega)
                rw [HM2.out.len_] at CA
                refine CA.mono ?_
                rintro e U3 ⟨Xa, ca, rfl, hoa, hfa, hb3⟩
                have HM3 := Lib.hid (HM2.out.then_ hb3)
                have HOA3 : Hid (OwnRow RK U3 (w.heap.size + 1) Xa ca (addR rs s rr)) := hoa.base_le (by have := HM2.out.kj.lt; have := HM2.out.big; omega)
                have HFA := Lib.hid hfa
                have KX3 := Lib.hid (KX2.out.below hb3 KX2.out.lt)
                have hzz3 : U2.heap.size ≤ U3.heap.size := hb3.size
                clear hoa hfa hb3 CA
                refine hK.out _ _ (jr_cells HM3.out.kj) (fun hHeld => ?_)
                clear hK K
                (try simp only [Act.put, List.setIfInBounds_toArray, List.set_cons_zero, List.set_cons_succ])
                refine wpAnyH_take (i := 4) (v := ?zv59) rfl (by kernel_rfl) (by kernel_rfl) (by kernel_rfl) (fun _ _ _ h => h) (Or.inl ⟨by kernel_rfl, ?zy59⟩) (by assumption) ?zr59
                case zy59 => (intro w hSw; (try dsimp only at hSw); go_simp; try with_reducible rfl)
                change wpAnyH _ _ _ _ _ _ _ (Act.put _ (some 20) _) _
                simp only [Act.put, List.setIfInBounds_toArray, List.set_cons_zero, List.set_cons_succ]
                refine wpAnyH_take (i := 5) (v := ?zv60) rfl (by kernel_rfl) (by kernel_rfl) (by kernel_rfl) (fun _ _ _ h => h) (Or.inl ⟨by kernel_rfl, ?zy60⟩) (by assumption) ?zr60
                case zy60 => (intro w hSw; (try dsimp only at hSw); go_simp; try with_reducible rfl)
                change wpAnyH _ _ _ _ _ _ _ (Act.put _ (some 25) _) _
                simp only [Act.put, List.setIfInBounds_toArray, List.set_cons_zero, List.set_cons_succ]
                refine wpAnyH_take (i := 6) (v := ?zv61) rfl (by kernel_rfl) (by kernel_rfl) (by kernel_rfl) (fun _ _ _ h => h) (Or.inl ⟨by kernel_rfl, ?zy61⟩) (by assumption) ?zr61
                case zy61 => (intro w hSw; (try dsimp only at hSw); go_simp; try with_reducible rfl)
                change wpAnyH _ _ _ _ _ _ _ (Act.put _ (some 26) _) _
                simp only [Act.put, List.setIfInBounds_toArray, List.set_cons_zero, List.set_cons_succ]
                refine wpAnyH_ready (rs := [8]) (by kernel_rfl) (by simp) (AllReadyH.cons rfl (fun K hK => ?zo62_0) AllReadyH.nil)
                case zo62_0 =>
                  go_simp
                  obtain ⟨n0, n1⟩ := jr_cells KX3.out
                  have nf := blk_frozen KX3.out
                  obtain ⟨U4, HU4⟩ : ∃ U, Hid (((U3.setCell ⟨U0.heap.size, 0, none⟩ (.slice Xa (List.length (addR rs s rr)) ca)).setCell ⟨U0.heap.size, 1, none⟩ (.int .i64 (addS rs s rr))) = U) := ⟨_, rfl⟩
                  have hgn : g ≠ U0.heap.size := by omega
                  have hMr := (HM3.out.rd.setOther (q := ⟨U0.heap.size, 0, none⟩) (by show B ≤ U0.heap.size; omega) (by show U0.heap.size ≠ g; omega) (.slice Xa (List.length (addR rs s rr)) ca)).setOther (q := ⟨U0.heap.size, 1, none⟩) (by show B ≤ U0.heap.size; omega) (by show U0.heap.size ≠ g; omega) (.int .i64 (addS rs s rr))
                  have HM4 : Hid (Jn w B g A len cap qr gj X c n rs s U4) := by rw [← HU4.out]; exact ⟨hMr, grown_setNew (grown_setNew HM3.out.grown ⟨U0.heap.size, 0, none⟩ (by show w.heap.size ≤ U0.heap.size; omega) _) ⟨U0.heap.size, 1, none⟩ (by show w.heap.size ≤ U0.heap.size; omega) _, (HM3.out.kr.setOther (p := ⟨U0.heap.size, 0, none⟩) (by show U0.heap.size ≠ _; omega) _).setOther (p := ⟨U0.heap.size, 1, none⟩) (by show U0.heap.size ≠ _; omega) _, (HM3.out.kj.setOther (p := ⟨U0.heap.size, 0, none⟩) (by show U0.heap.size ≠ _; omega) _).setOther (p := ⟨U0.heap.size, 1, none⟩) (by show U0.heap.size ≠ _; omega) _, rown_two HM3.out.own KX3.out _ _, HM3.out.fit, HM3.out.len_, HM3.out.few, HM3.out.s0, HM3.out.s1, HM3.out.big⟩
                  have KX4 : Hid (Blk U4 U0.heap.size 25 #[.slice Xa (List.length (addR rs s rr)) ca, .int .i64 (addS rs s rr)]) := by rw [← HU4.out]; exact blk_two KX3.out _ _
                  have HOA4 : Hid (OwnRow RK U4 (w.heap.size + 1) Xa ca (addR rs s rr)) := by rw [← HU4.out]; exact rown_two HOA3.out KX3.out _ _
                  go_simp
                  rw [HU4.out]
                  refine hK.out _ _ (jr_cells HM4.out.kj) (fun hHeld => ?_)
                  clear hK K
                  (try simp only [Act.put])
                  refine wpAnyH_take (i := 9) (v := ?zv63) rfl (by kernel_rfl) (by kernel_rfl) (by kernel_rfl) (fun _ _ _ h => h) (Or.inl ⟨by kernel_rfl, ?zy63⟩) (by assumption) ?zr63
                  case zy63 => (intro w hSw; (try dsimp only at hSw); go_simp; try with_reducible rfl)
                  change wpAnyH _ _ _ _ _ _ _ (Act.put _ (some 7) _) _
                  simp only [Act.put, List.setIfInBounds_toArray, List.set_cons_zero, List.set_cons_succ]
                  refine wpAnyH_done (by kernel_rfl) ?_ _
                  (try go_wp2_with fail)
                  go_meet
                  exact ⟨_, Xa, ca, _, addR rs s rr, addS rs s rr, _, qr, rfl, rfl, by omega, hgx1, by omega, HM4, KX4, HOA4, HFA.out, rfl, Nat.le_trans (addR_len rs s rr) (by omega), (addS_bd rs s rr hs0 hs1).1, (addS_bd rs s rr hs0 hs1).2⟩
        case rest =>
          obtain ⟨gx, Xa, ca, na, ra, sa, ok, qa, rfl, rfl, hqa, hgx, hgj, HNa, KX, HOA, hfa, hla, hna, hsa0, hsa1⟩ := hcut
          obtain ⟨x0, x1⟩ := jr_cells KX.out
          obtain ⟨j0, j1⟩ := jr_cells HNa.out.kj
          have jf := blk_frozen HNa.out.kj
          have HSA := Lib.hid (HNa.out.set hgl hB HOA.out hfa hla (by omega) hsa0 hsa1)
          have hgj2 : gj ≠ gx := fun e => hgj e.symm
          cases ok with
          | true =>
            go_wp2_with fail
            obtain ⟨wb, HWB⟩ : ∃ Q0, Hid ((wc.setCell ⟨gj, 0, none⟩ (.slice Xa na ca)).setCell ⟨gj, 1, none⟩ (.int .i64 sa) = Q0) := ⟨_, rfl⟩
            rw [HWB.out] at HSA ⊢
            have HNb := HSA
            clear x0 x1 j0 j1 jf
            refine (pick_any 4 HNb.out.rd (by omega) (by omega) (by omega)).mono ?_
            rintro e wp ⟨y, hy, rfl, hRp, hgp, hzp⟩
            have HNp := Lib.hid (HNb.out.pick hgl hRp hgp)
            clear hRp hgp hzp
            by_cases hy0 : y = 0
            · subst hy0
              have CS : Hid (∀ U, Jn w B g A len cap (qa + 1) gj Xa ca na ra sa U → Calls Try.prog 49 #[journalV Xa na ca sa] U (RetJ U (syncR ra sa) (syncS ra sa))) := fun U hU => by
                have h := sjsync_any Xa ca sa ra U hU.jat
                rw [hU.len_] at h
                exact h
              obtain ⟨j0, j1⟩ := jr_cells HNp.out.kj
              go_wp2_with fail
              refine (CS.out _ HNp.out).mono ?_
              rintro e wq ⟨Xs, cs, rfl, hos, hfs, hbs⟩
              have HNq := Lib.hid (HNp.out.then_ hbs)
              have HOS : Hid (OwnRow RK wq (w.heap.size + 1) Xs cs (syncR ra sa)) := hos.base_le (by have := HNp.out.kj.lt; have := HNp.out.big; omega)
              have HSET := Lib.hid (HNq.out.set hgl hB HOS.out hfs rfl (Nat.le_trans (syncR_len _ _) (by omega)) (syncS_bd ra sa).1 (syncS_bd ra sa).2)
              clear hos hbs j0 j1
              obtain ⟨j0, j1⟩ := jr_cells HNq.out.kj
              have jf := blk_frozen HNq.out.kj
              obtain ⟨ns, HNS⟩ : ∃ v, Hid ((syncR ra sa).length = v) := ⟨_, rfl⟩
              obtain ⟨ss, HSS⟩ : ∃ v, Hid (syncS ra sa = v) := ⟨_, rfl⟩
              rw [HNS.out, HSS.out] at HSET ⊢
              go_wp2
              go_roundw
              case rel => exact ⟨k + 1, qa + 1, Xs, cs, ns, _, ss, by omega, by go_num, by omega, by have := syncR_len ra sa; have := HNS.out; omega, HSET⟩
              case measure => simp [intOf]; omega
            · have hyi : ((y : Int) == 0) = false := by rw [beq_eq_false_iff_ne]; omega
              go_wp2
              go_roundw
              case rel => exact ⟨k + 1, qa + 1, Xa, ca, na, ra, sa, by omega, by go_num, by omega, by omega, HNp⟩
              case measure => simp [intOf]; omega
          | false =>
            go_wp2_with fail
            clear x0 x1 j0 j1 jf
            have HNb := HNa
            refine (pick_any 4 HNb.out.rd (by omega) (by omega) (by omega)).mono ?_
            rintro e wp ⟨y, hy, rfl, hRp, hgp, hzp⟩
            have HNp := Lib.hid (HNb.out.pick hgl hRp hgp)
            clear hRp hgp hzp
            by_cases hy0 : y = 0
            · subst hy0
              have CS : Hid (∀ U, Jn w B g A len cap (qa + 1) gj X c n rs s U → Calls Try.prog 49 #[journalV X n c s] U (RetJ U (syncR rs s) (syncS rs s))) := fun U hU => by
                have h := sjsync_any X c s rs U hU.jat
                rw [hU.len_] at h
                exact h
              obtain ⟨j0, j1⟩ := jr_cells HNp.out.kj
              go_wp2_with fail
              refine (CS.out _ HNp.out).mono ?_
              rintro e wq ⟨Xs, cs, rfl, hos, hfs, hbs⟩
              have HNq := Lib.hid (HNp.out.then_ hbs)
              have HOS : Hid (OwnRow RK wq (w.heap.size + 1) Xs cs (syncR rs s)) := hos.base_le (by have := HNp.out.kj.lt; have := HNp.out.big; omega)
              have HSET := Lib.hid (HNq.out.set hgl hB HOS.out hfs rfl (Nat.le_trans (syncR_len _ _) (by omega)) (syncS_bd rs s).1 (syncS_bd rs s).2)
              clear hos hbs j0 j1
              obtain ⟨j0, j1⟩ := jr_cells HNq.out.kj
              have jf := blk_frozen HNq.out.kj
              obtain ⟨ns, HNS⟩ : ∃ v, Hid ((syncR rs s).length = v) := ⟨_, rfl⟩
              obtain ⟨ss, HSS⟩ : ∃ v, Hid (syncS rs s = v) := ⟨_, rfl⟩
              rw [HNS.out, HSS.out] at HSET ⊢
              go_wp2
              go_roundw
              case rel => exact ⟨k + 1, qa + 1, Xs, cs, ns, _, ss, by omega, by go_num, by omega, by have := syncR_len rs s; have := HNS.out; omega, HSET⟩
              case measure => simp [intOf]; omega
            · have hyi : ((y : Int) == 0) = false := by rw [beq_eq_false_iff_ne]; omega
              go_wp2
              go_roundw
              case rel => exact ⟨k + 1, qa + 1, X, c, n, rs, s, by omega, by go_num, by omega, by omega, HNp⟩
              case measure => simp [intOf]; omega
      · have hkm : k = m := by omega
        subst hkm
        go_wp2_with fail
        refine (pick_any 20 HN.out.rd (by omega) (by omega) (by omega)).mono ?_
        rintro e wt ⟨y, hy, rfl, hRt, hgt, hzt⟩
        obtain ⟨qt, hqt⟩ : ∃ q0, q0 = q + 1 := ⟨_, rfl⟩
        rw [← hqt] at hRt
        have HNt := Lib.hid (HN.out.pick hgl hRt hgt)
        clear hRt hgt hzt
        by_cases hy0 : y = 0
        · subst hy0
          go_wp2_with fail
          refine (pick_any 24 HNt.out.rd (by omega) (by omega) (by omega)).mono ?_
          rintro e wu ⟨z, hz, rfl, hRu, hgu, hzu⟩
          obtain ⟨qu, hqu⟩ : ∃ q, q = qt + 1 := ⟨_, rfl⟩
          rw [← hqu] at hRu
          have HNu := Lib.hid (HNt.out.pick hgl hRu hgu)
          clear hRu hgu hzu
          obtain ⟨j0, j1⟩ := jr_cells HNu.out.kj
          have jf := blk_frozen HNu.out.kj
          have hz0 : (0 : Int) ≤ (z : Int) := by omega
          have hz24 : (z : Int) ≤ 24 := by omega
          have HSY := Lib.hid (HNu.out.sync hgl hB (s' := (z : Int) - 1) (by omega) (by omega))
          go_upto_region 18 with fail
          obtain ⟨wv, HWV⟩ : ∃ Q0, Hid (wu.setCell ⟨gj, 1, none⟩ (.int .i64 ((z : Int) - 1)) = Q0) := ⟨_, rfl⟩
          rw [HWV.out] at HSY ⊢
          have HNv := HSY
          clear j0 j1 jf
          obtain ⟨j0, j1⟩ := jr_cells HNv.out.kj
          obtain ⟨z0, z1⟩ := jr_cells HNv.out.kr
          have zf := blk_frozen HNv.out.kr
          go_wp2
          obtain ⟨Y, HY⟩ : ∃ Q0, Hid ((wv.setCell ⟨w.heap.size, 0, none⟩ (.slice X n c)).setCell ⟨w.heap.size, 1, none⟩ (.int .i64 ((z : Int) - 1)) = Q0) := ⟨_, rfl⟩
          have KY : Hid (Blk Y w.heap.size 25 #[.slice X n c, .int .i64 ((z : Int) - 1)]) := by rw [← HY.out]; exact blk_two HNv.out.kr _ _
          have HRY : Hid (Rd Y B g A len cap qu) := by rw [← HY.out]; exact (HNv.out.rd.setOther (q := ⟨w.heap.size, 0, none⟩) (by show B ≤ w.heap.size; omega) (by show w.heap.size ≠ g; omega) _).setOther (q := ⟨w.heap.size, 1, none⟩) (by show B ≤ w.heap.size; omega) (by show w.heap.size ≠ g; omega) _
          have HGY : Hid (w.grownBy Y (some g)) := by rw [← HY.out]; exact grown_setNew (grown_setNew HNv.out.grown ⟨w.heap.size, 0, none⟩ (Nat.le_refl _) _) ⟨w.heap.size, 1, none⟩ (Nat.le_refl _) _
          have HOY : Hid (OwnRow RK Y w.heap.size X c rs) := by rw [← HY.out]; exact (rown_two HNv.out.own HNv.out.kr _ _).base_le (by omega)
          rw [HY.out]
          obtain ⟨y0, y1⟩ := jr_cells KY.out
          exact bodyPost_ret (v := journalV X n c ((z : Int) - 1)) (by simp [results, Try.results32, go_sem, y0, y1]) rfl ⟨X, c, rs, ((z : Int) - 1), qu, by rw [HNv.out.len_], HOY.out, HNv.out.fit, by rw [HNv.out.len_]; exact HNv.out.few, HNv.out.s0, HNv.out.s1, by omega, HRY.out, HGY.out⟩
        · have hyi : ((y : Int) == 0) = false := by rw [beq_eq_false_iff_ne]; omega
          by_cases hy1 : y = 1
          · subst hy1
            go_upto_region 17 with fail
            (try go_wp2_with fail)
            refine wp_region_held_drew (S := (fun _ => True)) (by kernel_rfl) (trivial) (fun hHeld => ?_)
            obtain ⟨U0, HU0⟩ : ∃ U, Hid (wt.drew = U) := ⟨_, rfl⟩
            have HM0 : Hid (Jn w B g A len cap qt gj X c n rs s U0) := by rw [← HU0.out]; exact HNt.out.drew
            rw [HU0.out]
            obtain ⟨j0, j1⟩ := jr_cells HM0.out.kj
            refine wpAnyH_take (i := 0) (v := ?zv64) rfl (by kernel_rfl) (by kernel_rfl) (by kernel_rfl) (fun _ _ _ h => h) (Or.inl ⟨by kernel_rfl, ?zy64⟩) (by assumption) ?zr64
            case zy64 => (intro w hSw; (try dsimp only at hSw); go_simp; try with_reducible rfl)
            change wpAnyH _ _ _ _ _ _ _ (Act.put _ (some 44) _) _
            simp only [Act.put, List.setIfInBounds_toArray, List.set_cons_zero, List.set_cons_succ]
            refine wpAnyH_take (i := 2) (v := ?zv65) rfl (by kernel_rfl) (by kernel_rfl) (by kernel_rfl) (fun _ _ _ h => h) (Or.inl ⟨by kernel_rfl, ?zy65⟩) (by assumption) ?zr65
            case zy65 => (intro w hSw; (try dsimp only at hSw); go_simp; try with_reducible rfl)
            change wpAnyH _ _ _ _ _ _ _ (Act.put _ (some 46) _) _
            simp only [Act.put, List.setIfInBounds_toArray, List.set_cons_zero, List.set_cons_succ]
            refine wpAnyH_ready (rs := [1, 3]) (by kernel_rfl) (by simp) (AllReadyH.cons rfl (fun K hK => ?zo66_0) (AllReadyH.cons rfl (fun K hK => ?zo66_1) AllReadyH.nil))
            case zo66_0 =>
              go_simp
              refine hK.out _ _ (trivial) (fun hHeld => ?_)
              clear hK K
              (try simp only [Act.put, List.setIfInBounds_toArray, List.set_cons_zero, List.set_cons_succ])
              refine wpAnyH_ready (rs := [3]) (by kernel_rfl) (by simp) (AllReadyH.cons rfl (fun K hK => ?zo67_0) AllReadyH.nil)
              case zo67_0 =>
                go_simp
                go_at_call 38
                refine (drawrec_any HM0.out.rd (by omega)).mono ?_
                rintro e U2 ⟨rr, qr, rfl, hrt, hri0, hri1, hqr, hR2, hg2⟩
                obtain ⟨ri, rt⟩ := rr
                have HM2 := Lib.hid (HM0.out.pick hgl hR2 hg2)
                clear hR2 hg2
                refine hK.out _ _ (trivial) (fun hHeld => ?_)
                clear hK K
                (try simp only [Act.put, List.setIfInBounds_toArray, List.set_cons_zero, List.set_cons_succ])
                obtain ⟨j0, j1⟩ := jr_cells HM2.out.kj
                refine wpAnyH_ready (rs := [4]) (by kernel_rfl) (by simp) (AllReadyH.cons rfl (fun K hK => ?zo68_0) AllReadyH.nil)
                case zo68_0 =>
                  go_simp
                  refine hK.out _ _ (trivial) (fun hHeld => ?_)
                  clear hK K
                  (try simp only [Act.put, List.setIfInBounds_toArray, List.set_cons_zero, List.set_cons_succ])
                  obtain ⟨U3, HU3⟩ : ∃ U, Hid (U2.alloc (.cells #[.int .i64 ri, .string rt] 36) = U) := ⟨_, rfl⟩
                  have hb3 : Below U2.heap.size U2 U3 := by rw [← HU3.out]; exact (Below.refl _ _).alloc (Nat.le_refl _) _
                  have HM3 := Lib.hid (HM2.out.then_ hb3)
                  have HONE : Hid (RowAt RK U3 U3.heap.size (some ⟨U2.heap.size, 0, none⟩) [(⟨ri, rt⟩ : RD)]) := by rw [← HU3.out]; exact one_newR RK U2 ⟨ri, rt⟩ _
                  clear hb3
                  rw [HU3.out]
                  obtain ⟨j0, j1⟩ := jr_cells HM3.out.kj
                  refine wpAnyH_ready (rs := [5]) (by kernel_rfl) (by simp) (AllReadyH.cons rfl (fun K hK => ?zo69_0) AllReadyH.nil)
                  case zo69_0 =>
                    have hzu : w.heap.size + 1 ≤ U3.heap.size := by have := HM3.out.kj.lt; have := HM3.out.big; omega
                    have hXn : ∀ y, Value.ownBlock (.slice X rs.length c) = some y → y ≠ gj ∧ y ≠ g ∧ y ≠ w.heap.size := fun y hy => ⟨(fun e => by subst e; exact own_blk_ne HM3.out.own HM3.out.kj (by decide) hy), (fun e => by have := HM3.out.own.far y hy; omega), (fun e => by have := HM3.out.own.far y hy; omega)⟩
                    refine step_app_row (K := RK) Try.underlying23 HI0.out.1 HI0.out.2.1 HI0.out.2.2.1 HI0.out.2.2.2.1 HI0.out.2.2.2.2 (by decide) rfl (.tmp 45) (.tmp 48) rfl _ (w.heap.size + 1) X c rs (by rw [HM3.out.len_]; first | done | rfl) _ _ [(⟨ri, rt⟩ : RD)] rfl HM3.out.own HONE.out (by rw [HM3.out.len_]; show n + 1 ≤ 1000000; omega) hzu (fun e => by cases e) ?_
                    intro v U4 hA
                    obtain ⟨X5, x5, rfl, ho5⟩ := hA.own
                    have hg6 := hA.grown
                    have hbv := hA.below
                    have hl5 : (rs ++ [(⟨ri, rt⟩ : RD)]).length = n + 1 := by rw [List.length_append, HM3.out.len_]; rfl
                    have hrt2 : rt.size ≤ 10 := hrt
                    have hf5 : FitR (rs ++ [(⟨ri, rt⟩ : RD)]) := HM3.out.fit.snoc (by show rt.size ≤ maxLen; unfold maxLen; omega)
                    have hgd : w.grownBy U4 (some g) := ⟨hbv.os.trans HM3.out.grown.os, hbv.tape.trans HM3.out.grown.tape, hbv.output.trans HM3.out.grown.output, Nat.le_trans HM3.out.grown.size hbv.size, fun i hi hn => (hbv.block i (by omega)).trans (HM3.out.grown.block i hi hn)⟩
                    have HRv : Hid (Rd U4 B g A len cap qr) := HM3.out.rd.grown hg6 (fun k hk => ⟨by have := HM3.out.own.far k hk; omega, (hXn k hk).2.1⟩)
                    have HKRv : Hid (Blk U4 w.heap.size 25 #[.slice none 0 0, .int .i64 0]) := HM3.out.kr.grown hg6 (fun e => (hXn _ e.symm).2.2 rfl)
                    have HKJv : Hid (Blk U4 gj 25 #[.slice X n c, .int .i64 s]) := HM3.out.kj.grown hg6 (fun e => (hXn _ e.symm).1 rfl)
                    have HOv := Lib.hid ho5
                    have HGv := Lib.hid hgd
                    have HL5 := Lib.hid hl5
                    have HF5 := Lib.hid hf5
                    rw [HL5.out]
                    clear hA ho5 hg6 hbv hgd hl5 hf5 hXn
                    refine hK.out _ _ (trivial) (fun hHeld => ?_)
                    clear hK K
                    change wpAnyH _ _ _ _ _ _ _ (Act.put _ (some 49) _) _
                    simp only [Act.put, List.setIfInBounds_toArray, List.set_cons_zero, List.set_cons_succ]
                    have jf := blk_frozen HKJv.out
                    obtain ⟨j0, j1⟩ := jr_cells HKJv.out
                    refine wpAnyH_take (i := 6) (v := ?zv70) rfl (by kernel_rfl) (by kernel_rfl) (by kernel_rfl) (fun _ _ _ h => h) (Or.inl ⟨by kernel_rfl, ?zy70⟩) (by assumption) ?zr70
                    case zy70 => (intro w hSw; (try dsimp only at hSw); go_simp; try with_reducible rfl)
                    change wpAnyH _ _ _ _ _ _ _ (Act.put _ (some 50) _) _
                    simp only [Act.put, List.setIfInBounds_toArray, List.set_cons_zero, List.set_cons_succ]
                    refine wpAnyH_ready (rs := [7]) (by kernel_rfl) (by simp) (AllReadyH.cons rfl (fun K hK => ?zo71_0) AllReadyH.nil)
                    case zo71_0 =>
                      go_simp
                      obtain ⟨ww, HWW⟩ : ∃ Q0, Hid (U4.setCell ⟨gj, 0, none⟩ (.slice X5 (n + 1) x5) = Q0) := ⟨_, rfl⟩
                      have hbg : w.heap.size + 1 ≤ gj := HM3.out.big
                      have HNw : Hid (Jn w B g A len cap qr gj X5 x5 (n + 1) (rs ++ [(⟨ri, rt⟩ : RD)]) s ww) := by rw [← HWW.out]; exact ⟨HRv.out.setOther (q := ⟨gj, 0, none⟩) (by show B ≤ gj; omega) (by show gj ≠ g; omega) _, grown_setNew HGv.out ⟨gj, 0, none⟩ (by show w.heap.size ≤ gj; omega) _, HKRv.out.setOther (p := ⟨gj, 0, none⟩) (by show gj ≠ _; omega) _, HKJv.out.setOwn 0 _, rown_block HOv.out fun y hy => Below.heap_setCell _ ⟨gj, 0, none⟩ _ y (own_ne_blk HOv.out HKJv.out (by decide) y hy), HF5.out, HL5.out, by omega, HM3.out.s0, HM3.out.s1, HM3.out.big⟩
                      rw [HWW.out]
                      refine hK.out _ _ (trivial) (fun hHeld => ?_)
                      clear hK K
                      (try simp only [Act.put])
                      clear jf j0 j1
                      refine wpAnyH_done (by kernel_rfl) ?_ _
                      obtain ⟨j0, j1⟩ := jr_cells HNw.out.kj
                      obtain ⟨z0, z1⟩ := jr_cells HNw.out.kr
                      have zf := blk_frozen HNw.out.kr
                      go_wp2
                      obtain ⟨Y, HY⟩ : ∃ Q0, Hid ((ww.setCell ⟨w.heap.size, 0, none⟩ (.slice X5 (n + 1) x5)).setCell ⟨w.heap.size, 1, none⟩ (.int .i64 s) = Q0) := ⟨_, rfl⟩
                      have KY : Hid (Blk Y w.heap.size 25 #[.slice X5 (n + 1) x5, .int .i64 s]) := by rw [← HY.out]; exact blk_two HNw.out.kr _ _
                      have HRY : Hid (Rd Y B g A len cap qr) := by rw [← HY.out]; exact (HNw.out.rd.setOther (q := ⟨w.heap.size, 0, none⟩) (by show B ≤ w.heap.size; omega) (by show w.heap.size ≠ g; omega) _).setOther (q := ⟨w.heap.size, 1, none⟩) (by show B ≤ w.heap.size; omega) (by show w.heap.size ≠ g; omega) _
                      have HGY : Hid (w.grownBy Y (some g)) := by rw [← HY.out]; exact grown_setNew (grown_setNew HNw.out.grown ⟨w.heap.size, 0, none⟩ (Nat.le_refl _) _) ⟨w.heap.size, 1, none⟩ (Nat.le_refl _) _
                      have HOY : Hid (OwnRow RK Y w.heap.size X5 x5 (rs ++ [(⟨ri, rt⟩ : RD)])) := by rw [← HY.out]; exact (rown_two HNw.out.own HNw.out.kr _ _).base_le (by omega)
                      rw [HY.out]
                      obtain ⟨y0, y1⟩ := jr_cells KY.out
                      exact bodyPost_ret (v := journalV X5 (n + 1) x5 s) (by simp [results, Try.results32, go_sem, y0, y1]) rfl ⟨X5, x5, (rs ++ [(⟨ri, rt⟩ : RD)]), s, qr, by rw [HNw.out.len_], HOY.out, HNw.out.fit, by rw [HNw.out.len_]; exact HNw.out.few, HNw.out.s0, HNw.out.s1, by omega, HRY.out, HGY.out⟩
            case zo66_1 =>
              go_simp
              go_at_call 38
              refine (drawrec_any HM0.out.rd (by omega)).mono ?_
              rintro e U1 ⟨rr, qr, rfl, hrt, hri0, hri1, hqr, hR1, hg1⟩
              obtain ⟨ri, rt⟩ := rr
              have HM1 := Lib.hid (HM0.out.pick hgl hR1 hg1)
              clear hR1 hg1
              refine hK.out _ _ (trivial) (fun hHeld => ?_)
              clear hK K
              (try simp only [Act.put, List.setIfInBounds_toArray, List.set_cons_zero, List.set_cons_succ])
              obtain ⟨j0, j1⟩ := jr_cells HM1.out.kj
              refine wpAnyH_ready (rs := [1, 4]) (by kernel_rfl) (by simp) (AllReadyH.cons rfl (fun K hK => ?zo72_0) (AllReadyH.cons rfl (fun K hK => ?zo72_1) AllReadyH.nil))
              case zo72_0 =>
                go_simp
                refine hK.out _ _ (trivial) (fun hHeld => ?_)
                clear hK K
                (try simp only [Act.put, List.setIfInBounds_toArray, List.set_cons_zero, List.set_cons_succ])
                refine wpAnyH_ready (rs := [4]) (by kernel_rfl) (by simp) (AllReadyH.cons rfl (fun K hK => ?zo73_0) AllReadyH.nil)
                case zo73_0 =>
                  go_simp
                  refine hK.out _ _ (trivial) (fun hHeld => ?_)
                  clear hK K
                  (try simp only [Act.put, List.setIfInBounds_toArray, List.set_cons_zero, List.set_cons_succ])
                  obtain ⟨U3, HU3⟩ : ∃ U, Hid (U1.alloc (.cells #[.int .i64 ri, .string rt] 36) = U) := ⟨_, rfl⟩
                  have hb3 : Below U1.heap.size U1 U3 := by rw [← HU3.out]; exact (Below.refl _ _).alloc (Nat.le_refl _) _
                  have HM3 := Lib.hid (HM1.out.then_ hb3)
                  have HONE : Hid (RowAt RK U3 U3.heap.size (some ⟨U1.heap.size, 0, none⟩) [(⟨ri, rt⟩ : RD)]) := by rw [← HU3.out]; exact one_newR RK U1 ⟨ri, rt⟩ _
                  clear hb3
                  rw [HU3.out]
                  obtain ⟨j0, j1⟩ := jr_cells HM3.out.kj
                  refine wpAnyH_ready (rs := [5]) (by kernel_rfl) (by simp) (AllReadyH.cons rfl (fun K hK => ?zo74_0) AllReadyH.nil)
                  case zo74_0 =>
                    have hzu : w.heap.size + 1 ≤ U3.heap.size := by have := HM3.out.kj.lt; have := HM3.out.big; omega
                    have hXn : ∀ y, Value.ownBlock (.slice X rs.length c) = some y → y ≠ gj ∧ y ≠ g ∧ y ≠ w.heap.size := fun y hy => ⟨(fun e => by subst e; exact own_blk_ne HM3.out.own HM3.out.kj (by decide) hy), (fun e => by have := HM3.out.own.far y hy; omega), (fun e => by have := HM3.out.own.far y hy; omega)⟩
                    refine step_app_row (K := RK) Try.underlying23 HI0.out.1 HI0.out.2.1 HI0.out.2.2.1 HI0.out.2.2.2.1 HI0.out.2.2.2.2 (by decide) rfl (.tmp 45) (.tmp 48) rfl _ (w.heap.size + 1) X c rs (by rw [HM3.out.len_]; first | done | rfl) _ _ [(⟨ri, rt⟩ : RD)] rfl HM3.out.own HONE.out (by rw [HM3.out.len_]; show n + 1 ≤ 1000000; omega) hzu (fun e => by cases e) ?_
                    intro v U4 hA
                    obtain ⟨X5, x5, rfl, ho5⟩ := hA.own
                    have hg6 := hA.grown
                    have hbv := hA.below
                    have hl5 : (rs ++ [(⟨ri, rt⟩ : RD)]).length = n + 1 := by rw [List.length_append, HM3.out.len_]; rfl
                    have hrt2 : rt.size ≤ 10 := hrt
                    have hf5 : FitR (rs ++ [(⟨ri, rt⟩ : RD)]) := HM3.out.fit.snoc (by show rt.size ≤ maxLen; unfold maxLen; omega)
                    have hgd : w.grownBy U4 (some g) := ⟨hbv.os.trans HM3.out.grown.os, hbv.tape.trans HM3.out.grown.tape, hbv.output.trans HM3.out.grown.output, Nat.le_trans HM3.out.grown.size hbv.size, fun i hi hn => (hbv.block i (by omega)).trans (HM3.out.grown.block i hi hn)⟩
                    have HRv : Hid (Rd U4 B g A len cap qr) := HM3.out.rd.grown hg6 (fun k hk => ⟨by have := HM3.out.own.far k hk; omega, (hXn k hk).2.1⟩)
                    have HKRv : Hid (Blk U4 w.heap.size 25 #[.slice none 0 0, .int .i64 0]) := HM3.out.kr.grown hg6 (fun e => (hXn _ e.symm).2.2 rfl)
                    have HKJv : Hid (Blk U4 gj 25 #[.slice X n c, .int .i64 s]) := HM3.out.kj.grown hg6 (fun e => (hXn _ e.symm).1 rfl)
                    have HOv := Lib.hid ho5
                    have HGv := Lib.hid hgd
                    have HL5 := Lib.hid hl5
                    have HF5 := Lib.hid hf5
                    rw [HL5.out]
                    clear hA ho5 hg6 hbv hgd hl5 hf5 hXn
                    refine hK.out _ _ (trivial) (fun hHeld => ?_)
                    clear hK K
                    change wpAnyH _ _ _ _ _ _ _ (Act.put _ (some 49) _) _
                    simp only [Act.put, List.setIfInBounds_toArray, List.set_cons_zero, List.set_cons_succ]
                    have jf := blk_frozen HKJv.out
                    obtain ⟨j0, j1⟩ := jr_cells HKJv.out
                    refine wpAnyH_take (i := 6) (v := ?zv75) rfl (by kernel_rfl) (by kernel_rfl) (by kernel_rfl) (fun _ _ _ h => h) (Or.inl ⟨by kernel_rfl, ?zy75⟩) (by assumption) ?zr75
                    case zy75 => (intro w hSw; (try dsimp only at hSw); go_simp; try with_reducible rfl)
                    change wpAnyH _ _ _ _ _ _ _ (Act.put _ (some 50) _) _
                    simp only [Act.put, List.setIfInBounds_toArray, List.set_cons_zero, List.set_cons_succ]
                    refine wpAnyH_ready (rs := [7]) (by kernel_rfl) (by simp) (AllReadyH.cons rfl (fun K hK => ?zo76_0) AllReadyH.nil)
                    case zo76_0 =>
                      go_simp
                      obtain ⟨ww, HWW⟩ : ∃ Q0, Hid (U4.setCell ⟨gj, 0, none⟩ (.slice X5 (n + 1) x5) = Q0) := ⟨_, rfl⟩
                      have hbg : w.heap.size + 1 ≤ gj := HM3.out.big
                      have HNw : Hid (Jn w B g A len cap qr gj X5 x5 (n + 1) (rs ++ [(⟨ri, rt⟩ : RD)]) s ww) := by rw [← HWW.out]; exact ⟨HRv.out.setOther (q := ⟨gj, 0, none⟩) (by show B ≤ gj; omega) (by show gj ≠ g; omega) _, grown_setNew HGv.out ⟨gj, 0, none⟩ (by show w.heap.size ≤ gj; omega) _, HKRv.out.setOther (p := ⟨gj, 0, none⟩) (by show gj ≠ _; omega) _, HKJv.out.setOwn 0 _, rown_block HOv.out fun y hy => Below.heap_setCell _ ⟨gj, 0, none⟩ _ y (own_ne_blk HOv.out HKJv.out (by decide) y hy), HF5.out, HL5.out, by omega, HM3.out.s0, HM3.out.s1, HM3.out.big⟩
                      rw [HWW.out]
                      refine hK.out _ _ (trivial) (fun hHeld => ?_)
                      clear hK K
                      (try simp only [Act.put])
                      clear jf j0 j1
                      refine wpAnyH_done (by kernel_rfl) ?_ _
                      obtain ⟨j0, j1⟩ := jr_cells HNw.out.kj
                      obtain ⟨z0, z1⟩ := jr_cells HNw.out.kr
                      have zf := blk_frozen HNw.out.kr
                      go_wp2
                      obtain ⟨Y, HY⟩ : ∃ Q0, Hid ((ww.setCell ⟨w.heap.size, 0, none⟩ (.slice X5 (n + 1) x5)).setCell ⟨w.heap.size, 1, none⟩ (.int .i64 s) = Q0) := ⟨_, rfl⟩
                      have KY : Hid (Blk Y w.heap.size 25 #[.slice X5 (n + 1) x5, .int .i64 s]) := by rw [← HY.out]; exact blk_two HNw.out.kr _ _
                      have HRY : Hid (Rd Y B g A len cap qr) := by rw [← HY.out]; exact (HNw.out.rd.setOther (q := ⟨w.heap.size, 0, none⟩) (by show B ≤ w.heap.size; omega) (by show w.heap.size ≠ g; omega) _).setOther (q := ⟨w.heap.size, 1, none⟩) (by show B ≤ w.heap.size; omega) (by show w.heap.size ≠ g; omega) _
                      have HGY : Hid (w.grownBy Y (some g)) := by rw [← HY.out]; exact grown_setNew (grown_setNew HNw.out.grown ⟨w.heap.size, 0, none⟩ (Nat.le_refl _) _) ⟨w.heap.size, 1, none⟩ (Nat.le_refl _) _
                      have HOY : Hid (OwnRow RK Y w.heap.size X5 x5 (rs ++ [(⟨ri, rt⟩ : RD)])) := by rw [← HY.out]; exact (rown_two HNw.out.own HNw.out.kr _ _).base_le (by omega)
                      rw [HY.out]
                      obtain ⟨y0, y1⟩ := jr_cells KY.out
                      exact bodyPost_ret (v := journalV X5 (n + 1) x5 s) (by simp [results, Try.results32, go_sem, y0, y1]) rfl ⟨X5, x5, (rs ++ [(⟨ri, rt⟩ : RD)]), s, qr, by rw [HNw.out.len_], HOY.out, HNw.out.fit, by rw [HNw.out.len_]; exact HNw.out.few, HNw.out.s0, HNw.out.s1, by omega, HRY.out, HGY.out⟩
              case zo72_1 =>
                go_simp
                refine hK.out _ _ (trivial) (fun hHeld => ?_)
                clear hK K
                (try simp only [Act.put, List.setIfInBounds_toArray, List.set_cons_zero, List.set_cons_succ])
                obtain ⟨U2, HU2⟩ : ∃ U, Hid (U1.alloc (.cells #[.int .i64 ri, .string rt] 36) = U) := ⟨_, rfl⟩
                have hb2 : Below U1.heap.size U1 U2 := by rw [← HU2.out]; exact (Below.refl _ _).alloc (Nat.le_refl _) _
                have HM2 := Lib.hid (HM1.out.then_ hb2)
                have HONE : Hid (RowAt RK U2 U2.heap.size (some ⟨U1.heap.size, 0, none⟩) [(⟨ri, rt⟩ : RD)]) := by rw [← HU2.out]; exact one_newR RK U1 ⟨ri, rt⟩ _
                clear hb2
                rw [HU2.out]
                obtain ⟨j0, j1⟩ := jr_cells HM2.out.kj
                refine wpAnyH_ready (rs := [1]) (by kernel_rfl) (by simp) (AllReadyH.cons rfl (fun K hK => ?zo77_0) AllReadyH.nil)
                case zo77_0 =>
                  go_simp
                  refine hK.out _ _ (trivial) (fun hHeld => ?_)
                  clear hK K
                  (try simp only [Act.put, List.setIfInBounds_toArray, List.set_cons_zero, List.set_cons_succ])
                  refine wpAnyH_ready (rs := [5]) (by kernel_rfl) (by simp) (AllReadyH.cons rfl (fun K hK => ?zo78_0) AllReadyH.nil)
                  case zo78_0 =>
                    have hzu : w.heap.size + 1 ≤ U2.heap.size := by have := HM2.out.kj.lt; have := HM2.out.big; omega
                    have hXn : ∀ y, Value.ownBlock (.slice X rs.length c) = some y → y ≠ gj ∧ y ≠ g ∧ y ≠ w.heap.size := fun y hy => ⟨(fun e => by subst e; exact own_blk_ne HM2.out.own HM2.out.kj (by decide) hy), (fun e => by have := HM2.out.own.far y hy; omega), (fun e => by have := HM2.out.own.far y hy; omega)⟩
                    refine step_app_row (K := RK) Try.underlying23 HI0.out.1 HI0.out.2.1 HI0.out.2.2.1 HI0.out.2.2.2.1 HI0.out.2.2.2.2 (by decide) rfl (.tmp 45) (.tmp 48) rfl _ (w.heap.size + 1) X c rs (by rw [HM2.out.len_]; first | done | rfl) _ _ [(⟨ri, rt⟩ : RD)] rfl HM2.out.own HONE.out (by rw [HM2.out.len_]; show n + 1 ≤ 1000000; omega) hzu (fun e => by cases e) ?_
                    intro v U4 hA
                    obtain ⟨X5, x5, rfl, ho5⟩ := hA.own
                    have hg6 := hA.grown
                    have hbv := hA.below
                    have hl5 : (rs ++ [(⟨ri, rt⟩ : RD)]).length = n + 1 := by rw [List.length_append, HM2.out.len_]; rfl
                    have hrt2 : rt.size ≤ 10 := hrt
                    have hf5 : FitR (rs ++ [(⟨ri, rt⟩ : RD)]) := HM2.out.fit.snoc (by show rt.size ≤ maxLen; unfold maxLen; omega)
                    have hgd : w.grownBy U4 (some g) := ⟨hbv.os.trans HM2.out.grown.os, hbv.tape.trans HM2.out.grown.tape, hbv.output.trans HM2.out.grown.output, Nat.le_trans HM2.out.grown.size hbv.size, fun i hi hn => (hbv.block i (by omega)).trans (HM2.out.grown.block i hi hn)⟩
                    have HRv : Hid (Rd U4 B g A len cap qr) := HM2.out.rd.grown hg6 (fun k hk => ⟨by have := HM2.out.own.far k hk; omega, (hXn k hk).2.1⟩)
                    have HKRv : Hid (Blk U4 w.heap.size 25 #[.slice none 0 0, .int .i64 0]) := HM2.out.kr.grown hg6 (fun e => (hXn _ e.symm).2.2 rfl)
                    have HKJv : Hid (Blk U4 gj 25 #[.slice X n c, .int .i64 s]) := HM2.out.kj.grown hg6 (fun e => (hXn _ e.symm).1 rfl)
                    have HOv := Lib.hid ho5
                    have HGv := Lib.hid hgd
                    have HL5 := Lib.hid hl5
                    have HF5 := Lib.hid hf5
                    rw [HL5.out]
                    clear hA ho5 hg6 hbv hgd hl5 hf5 hXn
                    refine hK.out _ _ (trivial) (fun hHeld => ?_)
                    clear hK K
                    change wpAnyH _ _ _ _ _ _ _ (Act.put _ (some 49) _) _
                    simp only [Act.put, List.setIfInBounds_toArray, List.set_cons_zero, List.set_cons_succ]
                    have jf := blk_frozen HKJv.out
                    obtain ⟨j0, j1⟩ := jr_cells HKJv.out
                    refine wpAnyH_take (i := 6) (v := ?zv79) rfl (by kernel_rfl) (by kernel_rfl) (by kernel_rfl) (fun _ _ _ h => h) (Or.inl ⟨by kernel_rfl, ?zy79⟩) (by assumption) ?zr79
                    case zy79 => (intro w hSw; (try dsimp only at hSw); go_simp; try with_reducible rfl)
                    change wpAnyH _ _ _ _ _ _ _ (Act.put _ (some 50) _) _
                    simp only [Act.put, List.setIfInBounds_toArray, List.set_cons_zero, List.set_cons_succ]
                    refine wpAnyH_ready (rs := [7]) (by kernel_rfl) (by simp) (AllReadyH.cons rfl (fun K hK => ?zo80_0) AllReadyH.nil)
                    case zo80_0 =>
                      go_simp
                      obtain ⟨ww, HWW⟩ : ∃ Q0, Hid (U4.setCell ⟨gj, 0, none⟩ (.slice X5 (n + 1) x5) = Q0) := ⟨_, rfl⟩
                      have hbg : w.heap.size + 1 ≤ gj := HM2.out.big
                      have HNw : Hid (Jn w B g A len cap qr gj X5 x5 (n + 1) (rs ++ [(⟨ri, rt⟩ : RD)]) s ww) := by rw [← HWW.out]; exact ⟨HRv.out.setOther (q := ⟨gj, 0, none⟩) (by show B ≤ gj; omega) (by show gj ≠ g; omega) _, grown_setNew HGv.out ⟨gj, 0, none⟩ (by show w.heap.size ≤ gj; omega) _, HKRv.out.setOther (p := ⟨gj, 0, none⟩) (by show gj ≠ _; omega) _, HKJv.out.setOwn 0 _, rown_block HOv.out fun y hy => Below.heap_setCell _ ⟨gj, 0, none⟩ _ y (own_ne_blk HOv.out HKJv.out (by decide) y hy), HF5.out, HL5.out, by omega, HM2.out.s0, HM2.out.s1, HM2.out.big⟩
                      rw [HWW.out]
                      refine hK.out _ _ (trivial) (fun hHeld => ?_)
                      clear hK K
                      (try simp only [Act.put])
                      clear jf j0 j1
                      refine wpAnyH_done (by kernel_rfl) ?_ _
                      obtain ⟨j0, j1⟩ := jr_cells HNw.out.kj
                      obtain ⟨z0, z1⟩ := jr_cells HNw.out.kr
                      have zf := blk_frozen HNw.out.kr
                      go_wp2
                      obtain ⟨Y, HY⟩ : ∃ Q0, Hid ((ww.setCell ⟨w.heap.size, 0, none⟩ (.slice X5 (n + 1) x5)).setCell ⟨w.heap.size, 1, none⟩ (.int .i64 s) = Q0) := ⟨_, rfl⟩
                      have KY : Hid (Blk Y w.heap.size 25 #[.slice X5 (n + 1) x5, .int .i64 s]) := by rw [← HY.out]; exact blk_two HNw.out.kr _ _
                      have HRY : Hid (Rd Y B g A len cap qr) := by rw [← HY.out]; exact (HNw.out.rd.setOther (q := ⟨w.heap.size, 0, none⟩) (by show B ≤ w.heap.size; omega) (by show w.heap.size ≠ g; omega) _).setOther (q := ⟨w.heap.size, 1, none⟩) (by show B ≤ w.heap.size; omega) (by show w.heap.size ≠ g; omega) _
                      have HGY : Hid (w.grownBy Y (some g)) := by rw [← HY.out]; exact grown_setNew (grown_setNew HNw.out.grown ⟨w.heap.size, 0, none⟩ (Nat.le_refl _) _) ⟨w.heap.size, 1, none⟩ (Nat.le_refl _) _
                      have HOY : Hid (OwnRow RK Y w.heap.size X5 x5 (rs ++ [(⟨ri, rt⟩ : RD)])) := by rw [← HY.out]; exact (rown_two HNw.out.own HNw.out.kr _ _).base_le (by omega)
                      rw [HY.out]
                      obtain ⟨y0, y1⟩ := jr_cells KY.out
                      exact bodyPost_ret (v := journalV X5 (n + 1) x5 s) (by simp [results, Try.results32, go_sem, y0, y1]) rfl ⟨X5, x5, (rs ++ [(⟨ri, rt⟩ : RD)]), s, qr, by rw [HNw.out.len_], HOY.out, HNw.out.fit, by rw [HNw.out.len_]; exact HNw.out.few, HNw.out.s0, HNw.out.s1, by omega, HRY.out, HGY.out⟩
          · have hyi1 : ((y : Int) == 1) = false := by rw [beq_eq_false_iff_ne]; omega
            obtain ⟨j0, j1⟩ := jr_cells HNt.out.kj
            obtain ⟨z0, z1⟩ := jr_cells HNt.out.kr
            have zf := blk_frozen HNt.out.kr
            go_wp2
            obtain ⟨Y, HY⟩ : ∃ Q0, Hid ((wt.setCell ⟨w.heap.size, 0, none⟩ (.slice X n c)).setCell ⟨w.heap.size, 1, none⟩ (.int .i64 s) = Q0) := ⟨_, rfl⟩
            have KY : Hid (Blk Y w.heap.size 25 #[.slice X n c, .int .i64 s]) := by rw [← HY.out]; exact blk_two HNt.out.kr _ _
            have HRY : Hid (Rd Y B g A len cap qt) := by rw [← HY.out]; exact (HNt.out.rd.setOther (q := ⟨w.heap.size, 0, none⟩) (by show B ≤ w.heap.size; omega) (by show w.heap.size ≠ g; omega) _).setOther (q := ⟨w.heap.size, 1, none⟩) (by show B ≤ w.heap.size; omega) (by show w.heap.size ≠ g; omega) _
            have HGY : Hid (w.grownBy Y (some g)) := by rw [← HY.out]; exact grown_setNew (grown_setNew HNt.out.grown ⟨w.heap.size, 0, none⟩ (Nat.le_refl _) _) ⟨w.heap.size, 1, none⟩ (Nat.le_refl _) _
            have HOY : Hid (OwnRow RK Y w.heap.size X c rs) := by rw [← HY.out]; exact (rown_two HNt.out.own HNt.out.kr _ _).base_le (by omega)
            rw [HY.out]
            obtain ⟨y0, y1⟩ := jr_cells KY.out
            exact bodyPost_ret (v := journalV X n c s) (by simp [results, Try.results32, go_sem, y0, y1]) rfl ⟨X, c, rs, s, qt, by rw [HNt.out.len_], HOY.out, HNt.out.fit, by rw [HNt.out.len_]; exact HNt.out.few, HNt.out.s0, HNt.out.s1, by omega, HRY.out, HGY.out⟩

end Go.Proofs.Ytnllejialnkgnaa
