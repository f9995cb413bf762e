/- Contracts of the model's l51Leaves, l51Same, l51Has, l51Linked: they answer as the data say. Conditions: the run, or the feed, lies in memory. Contract of the model's l51Links: it answers as the data say. Condition: the run lies in memory. Contract of the model's l51Same: it reports whether two slices read as the same list; it changes nothing. Condition: both lie in memory. Contract of the model's -/
import Derived.Test.YtkmebilhbjcfpaaGreatBaseW
import Derived.Test.YtkmebilhbjcfpaaGreatBaseH
import Derived.Test.YtkmebilhbjcfpaaGreatHas
import Derived.Deep.DeepCutAuto
import Derived.BigQuiet
import Derived.Deep.QuietTactic
import Derived.Lib.Hide
import Derived.Test.YtkmebilhbjcfpaaGreatSame
import Derived.Test.YtkmebilhbjcfpaaGreatFeedProve
import Derived.Deep.RegionHeld3
import Derived.Test.YtkmebilhbjcfpaaGreatLeaves2
namespace Go.Proofs.YtkmebilhbjcfpaaGreat
open Go.RowKit
set_option linter.unusedVariables false

set_option maxHeartbeats 3000000 in
set_option maxRecDepth 100000 in
theorem sleavesW_any (sec bad : Int) (r : WR) (ls : List LinkD) (n2 : Nat) (w : World) (h : RunAt w w.heap.size r ls) (hp : 0 < r.fh.length) (n : Nat) (hn : n ≤ (fhth r.fh 0).f.bs.length) (hs : Short (fhth r.fh 0).f.bs) (hm : (fhth r.fh 0).f.bs.length ≤ 1048576) :
    Calls Tryz.prog 61 #[runV sec bad r n2, .int .i64 (n : Int)] w (RetInts w (leafL ((fhth r.fh 0).f.bs.take n))) := by
  have hF := h.feed 0 hp
  obtain ⟨b, o, hA1⟩ := h.r1.some_ hp
  have hc := (feed_cells6 (hA1 ▸ h.r1) 0 hp).2.2.2.2.1
  have hlt : b < w.heap.size := ((hA1 ▸ h.r1 : RowAt FK w w.heap.size (some ⟨b, o, none⟩) r.fh).lt hp).1
  obtain ⟨H, hH⟩ : ∃ x, fhth r.fh 0 = x := ⟨_, rfl⟩
  rw [hH] at hF hc hn hs hm ⊢
  obtain ⟨W, HW⟩ : ∃ W, Hid (w.alloc (.cells #[.int .i64 sec, .int .i64 bad, .slice r.A1 r.fh.length r.c1, .slice r.A2 n2 r.c2, .slice r.A3 r.ah.length r.c3, .slice r.A4 r.qh.length r.c4] 35) = W) := ⟨_, rfl⟩
  have KA : Hid (Blk W w.heap.size 35 #[.int .i64 sec, .int .i64 bad, .slice r.A1 r.fh.length r.c1, .slice r.A2 n2 r.c2, .slice r.A3 r.ah.length r.c3, .slice r.A4 r.qh.length r.c4]) := by rw [← HW.out]; exact Blk.new w _ _
  have HB : Hid (Below w.heap.size w W) := by rw [← HW.out]; exact (Below.refl _ w).alloc (Nat.le_refl _) _
  have k2 := (run_cells KA.out).2.2.1
  have c4 := (HB.out.cell (p := ⟨b, o + 0 * 6 + 4, none⟩) hlt).trans hc
  rw [show o + 0 * 6 + 4 = o + 4 by omega] at c4
  obtain ⟨N1, HN1⟩ : ∃ n, Hid (r.fh.length = n) := ⟨_, rfl⟩
  rw [hA1, HN1.out] at k2
  have hp1 : 0 < N1 := by rw [← HN1.out]; exact hp
  have hI : Hid (StrsAt W W.heap.size H.a1 (H.f.bs.take n)) := (hF.feed.strs.belowS HB.out).first n
  have hS : Short (H.f.bs.take n) := fun k hk => by
    rw [List.length_take] at hk
    have e : sth (H.f.bs.take n) k = sth H.f.bs k := by
      unfold sth; rw [List.getD_eq_getElem?_getD, List.getElem?_take_of_lt (by omega), List.getD_eq_getElem?_getD]
    rw [e]; exact hs k (by omega)
  have C := Lib.hid (sleaves_any H.a1 H.c1 (H.f.bs.take n) W hI.out hS (by rw [List.length_take]; omega))
  rw [List.length_take, show min n H.f.bs.length = n by omega] at C
  have hcap : n ≤ H.c1 := Nat.le_trans hn hF.le1.1
  have hcm := hF.le1.2
  unfold maxLen at hcm
  obtain ⟨m1, HM1⟩ : ∃ m, Hid (H.f.bs.length = m) := ⟨_, rfl⟩
  obtain ⟨x1, HX1⟩ : ∃ m, Hid (H.a1 = m) := ⟨_, rfl⟩
  obtain ⟨y1, HY1⟩ : ∃ m, H.c1 = m := ⟨_, rfl⟩
  rw [HM1.out, HX1.out, HY1] at c4
  rw [HX1.out, HY1] at C
  rw [HY1] at hcap hcm
  have hbz : w.heap.size ≤ W.heap.size := HB.out.size
  clear hF hc hn hs hS hm hA1 hH h hp hI HY1
  go_enter Tryz.func61, Tryz.ntmps61
  go_upto_region 1 with fail
  rw [HW.out]
  go_wp2_with fail
  refine C.out.mono ?_
  rintro e w2 ⟨A, c, rfl, ho, hb⟩
  have HO := Lib.hid (ho.base_le hbz)
  have HB2 : Hid (Below w.heap.size w w2) := HB.out.trans (hb.mono hbz)
  clear ho hb
  go_wp2
  go_ret
  exact ⟨A, c, rfl, HO.out, HB2.out⟩

theorem hasF_eq (f : FD) (i : Int) : hasF f i = ((decide (0 ≤ i) && decide (i ≤ (f.hs.length : Int) - 1)) && bth f.hs i.toNat) := by
  unfold hasF
  congr 1
  rw [← Bool.decide_and, decide_eq_decide]
  omega



theorem linked_step (ls : List LinkD) (a b : Int) (k : Nat) (h : k < ls.length) (hc : ∀ j, j < k → ¬ ((kth2 ls j).a = min a b ∧ (kth2 ls j).b = max a b)) (hk : ¬ ((kth2 ls k).a = min a b ∧ (kth2 ls k).b = max a b)) : ∀ j, j < k + 1 → ¬ ((kth2 ls j).a = min a b ∧ (kth2 ls j).b = max a b) := fun j hj => by
  rcases Nat.lt_or_ge j k with e | e
  · exact hc j e
  · have : j = k := by omega
    subst this; exact hk
theorem kth2_mem (ls : List LinkD) (k : Nat) (h : k < ls.length) : kth2 ls k ∈ ls := List.mem_of_getElem? (kth2_get ls k h)
theorem mem_kth2 {ls : List LinkD} {l : LinkD} (h : l ∈ ls) : ∃ k, k < ls.length ∧ kth2 ls k = l := by
  obtain ⟨k, hk, rfl⟩ := List.mem_iff_getElem.1 h
  refine ⟨k, hk, ?_⟩
  have := kth2_get ls k hk
  rw [List.getElem?_eq_getElem hk] at this
  injection this with this
  exact this.symm
def linkB (ls : List LinkD) (a b : Int) : Bool := ls.any (fun l => l.a == min a b && l.b == max a b)
theorem linkB_yes {ls : List LinkD} {a b : Int} {k : Nat} (h : k < ls.length) (hk : (kth2 ls k).a = min a b ∧ (kth2 ls k).b = max a b) : linkB ls a b = true := by
  unfold linkB
  rw [List.any_eq_true]
  exact ⟨_, kth2_mem ls k h, by rw [Bool.and_eq_true, beq_iff_eq, beq_iff_eq]; exact hk⟩
theorem linkB_no {ls : List LinkD} {a b : Int} (hc : ∀ j, j < ls.length → ¬ ((kth2 ls j).a = min a b ∧ (kth2 ls j).b = max a b)) : linkB ls a b = false := by
  unfold linkB
  rw [Bool.eq_false_iff]
  intro e
  rw [List.any_eq_true] at e
  obtain ⟨l, hl, h⟩ := e
  rw [Bool.and_eq_true, beq_iff_eq, beq_iff_eq] at h
  obtain ⟨k, hk, rfl⟩ := mem_kth2 hl
  exact hc k hk h

end Go.Proofs.YtkmebilhbjcfpaaGreat

namespace Go.Proofs.YtkmebilhbjcfpaaGreat
open Go.RowKit
set_option linter.unusedVariables false

/-- The k-th connection is in range and behind the one before it. -/
def fitK (n : Nat) (ls : List LinkD) (k : Nat) : Bool :=
  (decide (0 ≤ (kth2 ls k).a) && decide ((kth2 ls k).a ≤ (n : Int) - 1)) && ((decide ((kth2 ls k).a + 1 ≤ (kth2 ls k).b) && decide ((kth2 ls k).b ≤ (n : Int) - 1)) && (decide (k = 0) || decide (ltK (kth2 ls (k - 1)) (kth2 ls k))))
def linksB (n : Nat) (ls : List LinkD) : Bool := (List.range ls.length).all (fitK n ls)
theorem linksB_all (n : Nat) (ls : List LinkD) : linksB n ls = true ↔ ∀ k, k < ls.length → fitK n ls k = true := by
  unfold linksB
  rw [List.all_eq_true]
  exact ⟨fun h k hk => h k (List.mem_range.2 hk), fun h k hk => h k (List.mem_range.1 hk)⟩
theorem linksB_no {n : Nat} {ls : List LinkD} {k : Nat} (hk : k < ls.length) (h : fitK n ls k = false) : linksB n ls = false := by
  rw [Bool.eq_false_iff]
  intro e
  rw [(linksB_all n ls).1 e k hk] at h
  cases h
theorem fitK_iff (n : Nat) (ls : List LinkD) (k : Nat) : fitK n ls k = true ↔ (0 ≤ (kth2 ls k).a ∧ (kth2 ls k).a < (kth2 ls k).b ∧ (kth2 ls k).b < n) ∧ (k = 0 ∨ ltK (kth2 ls (k - 1)) (kth2 ls k)) := by
  unfold fitK
  simp only [Bool.and_eq_true, Bool.or_eq_true, decide_eq_true_eq]
  constructor
  · rintro ⟨⟨a1, a2⟩, ⟨⟨a3, a4⟩, a5⟩⟩
    exact ⟨⟨a1, by omega, by omega⟩, a5⟩
  · rintro ⟨⟨a1, a2, a3⟩, a5⟩
    exact ⟨⟨a1, by omega⟩, ⟨by omega, by omega⟩, a5⟩
theorem kth2_eq (ls : List LinkD) (k : Nat) (h : k < ls.length) : kth2 ls k = ls[k] := by
  have := kth2_get ls k h
  rw [List.getElem?_eq_getElem h] at this
  injection this with this
  exact this.symm
theorem linksB_iff (n : Nat) (ls : List LinkD) : linksB n ls = true ↔ LinksW n ls := by
  rw [linksB_all]
  constructor
  · intro h
    refine ⟨fun l hl => ?_, ?_⟩
    · obtain ⟨k, hk, rfl⟩ := mem_kth2 hl
      exact ((fitK_iff n ls k).1 (h k hk)).1
    · have step : ∀ d i, i + d + 1 < ls.length → ltK (kth2 ls i) (kth2 ls (i + d + 1)) := by
        intro d
        induction d with
        | zero =>
          intro i hi
          rcases ((fitK_iff n ls (i + 0 + 1)).1 (h _ hi)).2 with h | h
          · omega
          · simpa using h
        | succ d ih =>
          intro i hi
          have a := ih i (by omega)
          rcases ((fitK_iff n ls (i + (d + 1) + 1)).1 (h _ hi)).2 with h | h
          · omega
          · have e : i + (d + 1) + 1 - 1 = i + d + 1 := by omega
            rw [e] at h
            exact ltK_trans a h
      rw [List.pairwise_iff_getElem]
      intro i j hi hj hij
      have := step (j - i - 1) i (by omega)
      rw [show i + (j - i - 1) + 1 = j by omega, kth2_eq ls i hi, kth2_eq ls j hj] at this
      exact this
  · intro h k hk
    rw [fitK_iff]
    refine ⟨h.ok _ (kth2_mem ls k hk), ?_⟩
    rcases Nat.eq_zero_or_pos k with rfl | hp
    · exact .inl rfl
    · right
      have := (List.pairwise_iff_getElem.1 h.asc) (k - 1) k (by omega) hk (by omega)
      rw [kth2_eq ls (k - 1) (by omega), kth2_eq ls k hk]
      exact this

set_option maxHeartbeats 6000000 in
set_option maxRecDepth 100000 in
theorem slinks_any (sec bad : Int) (r : WR) (ls : List LinkD) (w : World) (h : RunAt w w.heap.size r ls) {n m : Nat} (hn : ls.length = n) (hm : r.fh.length = m) :
    Calls Tryz.prog 23 #[.agg #[.int .i64 sec, .int .i64 bad, .slice r.A1 m r.c1, .slice r.A2 n r.c2, .slice r.A3 r.ah.length r.c3, .slice r.A4 r.qh.length r.c4]] w fun e w' => e = .returned (.bool (linksB m ls)) ∧ Below w.heap.size w w' := by
  have hm2 := h.m2
  have hm1 := h.m1
  unfold maxLen at hm2 hm1
  rw [hn] at hm2
  rw [hm] at hm1
  obtain ⟨W, HW⟩ : ∃ W, Hid (w.alloc (.cells #[.int .i64 sec, .int .i64 bad, .slice r.A1 m r.c1, .slice r.A2 n r.c2, .slice r.A3 r.ah.length r.c3, .slice r.A4 r.qh.length r.c4] 35) = W) := ⟨_, rfl⟩
  have KA : Hid (Blk W w.heap.size 35 #[.int .i64 sec, .int .i64 bad, .slice r.A1 m r.c1, .slice r.A2 n r.c2, .slice r.A3 r.ah.length r.c3, .slice r.A4 r.qh.length r.c4]) := by rw [← HW.out]; exact Blk.new w _ _
  have HB : Hid (Below w.heap.size w W) := by rw [← HW.out]; exact (Below.refl _ w).alloc (Nat.le_refl _) _
  have HR := Lib.hid (h.r2.belowS HB.out)
  have HN := Lib.hid hn
  have hbzW : w.heap.size < W.heap.size := KA.out.lt
  clear h hn hm
  have hmw : IntKind.i64.wrap ((m : Int) - 1) = (m : Int) - 1 := IntWalk.i64_in _ (by omega)
  go_enter Tryz.func23, Tryz.ntmps23
  go_upto_region 1 with fail
  rw [HW.out]
  go_wp2
  go_loopw [3] (fun i wr => ∃ k : Nat, k ≤ n ∧ i = .int .i64 (k : Int) ∧ Hid (Below W.heap.size W wr) ∧ Hid (∀ j, j < k → fitK m ls j = true)) (fun i _ => n - (intOf i).toNat)
  case atStart => exact ⟨0, Nat.zero_le _, rfl, Below.refl _ _, fun j hj => absurd hj (Nat.not_lt_zero _)⟩
  case round =>
    obtain ⟨k, hk, rfl, HBr, HC⟩ := hrel
    have KAr : Hid (Blk wr w.heap.size 35 _) := KA.out.below HBr.out hbzW
    obtain ⟨_, _, k2, k3, _⟩ := run_cells KAr.out
    have HB0 : Hid (Below w.heap.size w wr) := HB.out.trans (HBr.out.mono (by omega))
    by_cases hkn : k < n
    · have hkz : k < ls.length := by rw [HN.out]; exact hkn
      have HRr := Lib.hid (HR.out.belowS HBr.out)
      obtain ⟨A2, HA2⟩ : ∃ x, Hid (r.A2 = x) := ⟨_, rfl⟩
      rw [HA2.out] at k3 HRr
      obtain ⟨c, o, rfl⟩ := HRr.out.some_ (by omega)
      obtain ⟨c0, c1⟩ := link_cells2 HRr.out k hkz
      obtain ⟨p0, p1⟩ := link_cells2 HRr.out (k - 1) (by omega)
      have hcl : c < wr.heap.size := (HRr.out.lt (by omega)).1
      obtain ⟨va, HVA⟩ : ∃ x, Hid ((kth2 ls k).a = x) := ⟨_, rfl⟩
      obtain ⟨vb, HVB⟩ : ∃ x, Hid ((kth2 ls k).b = x) := ⟨_, rfl⟩
      obtain ⟨pa, HPA⟩ : ∃ x, Hid ((kth2 ls (k - 1)).a = x) := ⟨_, rfl⟩
      obtain ⟨pb, HPB⟩ : ∃ x, Hid ((kth2 ls (k - 1)).b = x) := ⟨_, rfl⟩
      obtain ⟨q, HQ⟩ : ∃ x, Hid (k - 1 = x) := ⟨_, rfl⟩
      rw [HVA.out] at c0
      rw [HVB.out] at c1
      rw [HPA.out, HQ.out] at p0
      rw [HPB.out, HQ.out] at p1
      have hk0 : (0 : Int) ≤ (k : Int) := by omega
      have hki : (k : Int) < (n : Int) := by omega
      have HFI : Hid (fitK m ls k = ((decide (0 ≤ va) && decide (va ≤ (m : Int) - 1)) && ((decide (va + 1 ≤ vb) && decide (vb ≤ (m : Int) - 1)) && (decide (k = 0) || decide (ltK ⟨pa, pb⟩ ⟨va, vb⟩))))) := by
        have e1 : kth2 ls k = ⟨va, vb⟩ := LinkD.same HVA.out HVB.out
        have e2 : kth2 ls (k - 1) = ⟨pa, pb⟩ := LinkD.same HPA.out HPB.out
        show _ = _
        unfold fitK
        rw [e1, e2]
      have HNO : Hid (fitK m ls k = false → linksB m ls = false) := fun e => linksB_no hkz e
      have HS : Hid (fitK m ls k = true → ∀ j, j < k + 1 → fitK m ls j = true) := fun e j hj => by
        rcases Nat.lt_or_ge j k with h | h
        · exact HC.out j h
        · have : j = k := by omega
          subst this; exact e
      obtain ⟨V, HV⟩ : ∃ V, Hid (wr.alloc (.cells #[.int .i64 va, .int .i64 vb] 73) = V) := ⟨_, rfl⟩
      have KL : Hid (Blk V wr.heap.size 73 #[.int .i64 va, .int .i64 vb]) := by rw [← HV.out]; exact Blk.new wr _ _
      have HBV : Hid (Below wr.heap.size wr V) := by rw [← HV.out]; exact (Below.refl _ wr).alloc (Nat.le_refl _) _
      have HBVw : Hid (Below W.heap.size W V) := HBr.out.trans (HBV.out.mono HBr.out.size)
      have HB1 : Hid (Below w.heap.size w V) := HB.out.trans (HBVw.out.mono (by omega))
      have l0 := KL.out.cell 0
      have l1 := KL.out.cell 1
      have KAv : Hid (Blk V w.heap.size 35 _) := KA.out.below HBVw.out hbzW
      obtain ⟨_, _, v2, v3, _⟩ := run_cells KAv.out
      rw [HA2.out] at v3
      have d0 := (HBV.out.cell (p := ⟨c, o + q * 2, none⟩) hcl).trans p0
      have d1 := (HBV.out.cell (p := ⟨c, o + q * 2 + 1, none⟩) hcl).trans p1
      clear hkz
      go_upto_region 5 with fail
      rw [HV.out]
      have C1 := Lib.hid (fun U => l6in_any va 0 ((m : Int) - 1) U)
      have C2 := Lib.hid (fun U => l6in_any vb (va + 1) ((m : Int) - 1) U)
      by_cases h1 : 0 ≤ va ∧ va ≤ (m : Int) - 1
      · have e1 : (decide (0 ≤ va) && decide (va ≤ (m : Int) - 1)) = true := by rw [decide_eq_true h1.1, decide_eq_true h1.2]; rfl
        rw [e1] at C1 HFI
        have hw2 : IntKind.i64.wrap (va + 1) = va + 1 := IntWalk.i64_in _ (by omega)
        by_cases h2 : va + 1 ≤ vb ∧ vb ≤ (m : Int) - 1
        · have e2 : (decide (va + 1 ≤ vb) && decide (vb ≤ (m : Int) - 1)) = true := by rw [decide_eq_true h2.1, decide_eq_true h2.2]; rfl
          rw [e2] at C2 HFI
          clear e1 e2 h1 h2
          rcases Nat.eq_zero_or_pos k with hkk | hkp
          · have HS2 := Lib.hid (HS.out (by rw [HFI.out, decide_eq_true hkk]; rfl))
            have hkd : ¬ (0 : Int) < (k : Int) := by omega
            have hkd2 : decide (0 < k) = false := decide_eq_false (by omega)
            have hkd3 : decide ((0 : Int) < (k : Int)) = false := decide_eq_false hkd
            clear hkk
            go_wp2_with fail
            refine (C1.out V).mono ?_
            rintro e w2 ⟨rfl, hx2⟩
            rw [hx2]
            clear hx2
            go_wp2_with fail
            refine (C2.out V).mono ?_
            rintro e w2 ⟨rfl, hx2⟩
            rw [hx2]
            clear hx2
            go_wp2_with fail
            go_quiet (fail)
            go_wp2
            go_roundw
            case rel => exact ⟨k + 1, by omega, by go_num, below_drewN HBVw.out _, HS2.out⟩
            case measure => simp [intOf]; omega
          · have hkd : (0 : Int) < (k : Int) := by omega
            have hkd2 : decide (0 < k) = true := decide_eq_true hkp
            have hkd3 : decide ((0 : Int) < (k : Int)) = true := decide_eq_true hkd
            have hqw : IntKind.i64.wrap ((k : Int) - 1) = (q : Int) := by have hQ := HQ.out; rw [show (k : Int) - 1 = (q : Int) by omega]; exact IntWalk.i64_in _ (by omega)
            have hq0 : (0 : Int) ≤ (q : Int) := by omega
            have hqi : (q : Int) < (n : Int) := by have := HQ.out; omega
            have HZ : Hid (decide (k = 0) = false) := decide_eq_false (by omega)
            rw [HZ.out] at HFI
            clear hkp
            by_cases g1 : va < pa
            · have g1d : decide (va < pa) = true := decide_eq_true g1
              have HF : Hid (linksB m ls = false) := HNO.out (by rw [HFI.out, decide_eq_false (show ¬ ltK ⟨pa, pb⟩ ⟨va, vb⟩ from by unfold ltK; simp only; omega)]; rfl)
              go_wp2_with fail
              refine (C1.out V).mono ?_
              rintro e w2 ⟨rfl, hx2⟩
              rw [hx2]
              clear hx2
              go_wp2_with fail
              refine (C2.out V).mono ?_
              rintro e w2 ⟨rfl, hx2⟩
              rw [hx2]
              clear hx2
              go_wp2_with fail
              go_quiet (fail)
              go_wp2
              go_ret
              exact ⟨ret_bool HF.out.symm, below_drewN HB1.out _⟩
            · have g1d : decide (va < pa) = false := decide_eq_false g1
              by_cases g2 : pa = va
              · have g2d : (pa == va) = true := by rw [g2]; exact beq_self_eq_true _
                by_cases g3 : vb ≤ pb
                · have g3d : decide (vb ≤ pb) = true := decide_eq_true g3
                  have HF : Hid (linksB m ls = false) := HNO.out (by rw [HFI.out, decide_eq_false (show ¬ ltK ⟨pa, pb⟩ ⟨va, vb⟩ from by unfold ltK; simp only; omega)]; rfl)
                  clear g2
                  go_wp2_with fail
                  refine (C1.out V).mono ?_
                  rintro e w2 ⟨rfl, hx2⟩
                  rw [hx2]
                  clear hx2
                  go_wp2_with fail
                  refine (C2.out V).mono ?_
                  rintro e w2 ⟨rfl, hx2⟩
                  rw [hx2]
                  clear hx2
                  go_wp2_with fail
                  go_quiet (fail)
                  go_wp2
                  go_ret
                  exact ⟨ret_bool HF.out.symm, below_drewN HB1.out _⟩
                · have g3d : decide (vb ≤ pb) = false := decide_eq_false g3
                  have HS2 := Lib.hid (HS.out (by rw [HFI.out, decide_eq_true (show ltK ⟨pa, pb⟩ ⟨va, vb⟩ from by unfold ltK; simp only; omega)]; rfl))
                  clear g2
                  go_wp2_with fail
                  refine (C1.out V).mono ?_
                  rintro e w2 ⟨rfl, hx2⟩
                  rw [hx2]
                  clear hx2
                  go_wp2_with fail
                  refine (C2.out V).mono ?_
                  rintro e w2 ⟨rfl, hx2⟩
                  rw [hx2]
                  clear hx2
                  go_wp2_with fail
                  go_quiet (fail)
                  go_wp2
                  go_roundw
                  case rel => exact ⟨k + 1, by omega, by go_num, below_drewN HBVw.out _, HS2.out⟩
                  case measure => simp [intOf]; omega
              · have g2d : (pa == va) = false := beq_eq_false_iff_ne.2 g2
                have HS2 := Lib.hid (HS.out (by rw [HFI.out, decide_eq_true (show ltK ⟨pa, pb⟩ ⟨va, vb⟩ from by unfold ltK; simp only; omega)]; rfl))
                clear g2
                go_wp2_with fail
                refine (C1.out V).mono ?_
                rintro e w2 ⟨rfl, hx2⟩
                rw [hx2]
                clear hx2
                go_wp2_with fail
                refine (C2.out V).mono ?_
                rintro e w2 ⟨rfl, hx2⟩
                rw [hx2]
                clear hx2
                go_wp2_with fail
                go_quiet (fail)
                go_wp2
                go_roundw
                case rel => exact ⟨k + 1, by omega, by go_num, below_drewN HBVw.out _, HS2.out⟩
                case measure => simp [intOf]; omega
        · have e2 : (decide (va + 1 ≤ vb) && decide (vb ≤ (m : Int) - 1)) = false := by
            rw [Bool.eq_false_iff]; intro e; rw [Bool.and_eq_true, decide_eq_true_eq, decide_eq_true_eq] at e; exact h2 e
          rw [e2] at C2 HFI
          have HF : Hid (linksB m ls = false) := HNO.out (by rw [HFI.out]; rfl)
          clear e1 e2 h1 h2
          go_wp2_with fail
          refine (C1.out V).mono ?_
          rintro e w2 ⟨rfl, hx2⟩
          rw [hx2]
          clear hx2
          go_wp2_with fail
          refine (C2.out V).mono ?_
          rintro e w2 ⟨rfl, hx2⟩
          rw [hx2]
          clear hx2
          go_wp2
          go_ret
          exact ⟨ret_bool HF.out.symm, HB1.out⟩
      · have e1 : (decide (0 ≤ va) && decide (va ≤ (m : Int) - 1)) = false := by
          rw [Bool.eq_false_iff]; intro e; rw [Bool.and_eq_true, decide_eq_true_eq, decide_eq_true_eq] at e; exact h1 e
        rw [e1] at C1 HFI
        have HF : Hid (linksB m ls = false) := HNO.out (by rw [HFI.out]; rfl)
        clear e1 h1
        go_wp2_with fail
        refine (C1.out V).mono ?_
        rintro e w2 ⟨rfl, hx2⟩
        rw [hx2]
        clear hx2
        go_wp2
        go_ret
        exact ⟨ret_bool HF.out.symm, HB1.out⟩
    · have hke : k = n := by omega
      subst hke
      have HF : Hid (linksB m ls = true) := (linksB_all m ls).2 (by rw [HN.out]; exact HC.out)
      go_wp2
      go_ret
      exact ⟨ret_bool HF.out.symm, HB0.out⟩
end Go.Proofs.YtkmebilhbjcfpaaGreat

namespace Go.Proofs.YtkmebilhbjcfpaaGreat
open Go.RowKit
set_option linter.unusedVariables false

set_option maxHeartbeats 1000000 in
theorem ssame_any (A : Option Addr) (cap : Nat) (xs : List Int) (A1 : Option Addr) (cap1 : Nat) (ys : List Int) (w : World) (hI : IntsAt w w.heap.size A xs) (hJ : IntsAt w w.heap.size A1 ys) (hm : xs.length ≤ maxLen) (hm1 : ys.length ≤ maxLen) :
    Calls Tryz.prog 66 #[.slice A xs.length cap, .slice A1 ys.length cap1] w fun e w' => e = .returned (.bool (decide (xs = ys))) ∧ ∃ q, w' = w.drewN q := by
  unfold maxLen at hm hm1
  have HI := Lib.hid hI
  have HJ := Lib.hid hJ
  clear hI hJ
  by_cases hl : xs.length = ys.length
  · obtain ⟨n, HN⟩ : ∃ n, Hid (xs.length = n) := ⟨_, rfl⟩
    have HN1 : Hid (ys.length = n) := by show _ = _; rw [← hl]; exact HN.out
    rw [HN.out] at hm ⊢
    rw [HN1.out] at hm1 ⊢
    clear hl
    go_enter Tryz.func66, Tryz.ntmps66
    go_wp2
    go_loopw [5] (fun i w' => ∃ k : Nat, k ≤ n ∧ i = .int .i64 k ∧ Hid (xs.take k = ys.take k) ∧ ∃ q, w' = w.drewN q) (fun i _ => n - (intOf i).toNat)
    case atStart => exact ⟨0, Nat.zero_le _, rfl, rfl, 0, rfl⟩
    case round =>
      obtain ⟨k, hk, rfl, HD, q, rfl⟩ := hrel
      by_cases hlt : k < n
      · have hlx : k < xs.length := by rw [HN.out]; exact hlt
        have hly : k < ys.length := by rw [HN1.out]; exact hlt
        obtain ⟨b, o, rfl, hb, hc⟩ := HI.out (by omega)
        obtain ⟨b1, o1, rfl, hb1, hc1⟩ := HJ.out (by omega)
        have hck := hc k hlx
        have hck1 := hc1 k hly
        have hk0 : (0 : Int) ≤ (k : Int) := by omega
        have hk1 : (k : Int) < (n : Int) := by omega
        by_cases hv : nth xs k = nth ys k
        · have HT : Hid (xs.take (k + 1) = ys.take (k + 1)) := same_take xs ys k hlx hly HD.out hv
          have hvb : (nth xs k != nth ys k) = false := by simp [hv]
          clear hc hc1 hlx hly hv
          go_wp2_with fail
          go_quiet (fail)
          go_wp2
          go_roundw
          case rel => exact ⟨k + 1, by omega, by go_num, HT, _, rfl⟩
          case measure => simp [intOf]; omega
        · have HE := Lib.hid (same_ne xs ys k hv)
          have hvb : (nth xs k != nth ys k) = true := by simp [hv]
          clear hc hc1 hlx hly hv
          go_wp2_with fail
          go_quiet (fail)
          go_wp2
          go_ret
          exact ⟨ret_bool HE.out.symm, _, by first | rfl | exact World.drewN_drewN _ _ _⟩
      · have HE : Hid (decide (xs = ys) = true) := by
          show _ = _
          rw [decide_eq_true_iff]
          have := HD.out
          rw [List.take_of_length_le (by rw [HN.out]; omega), List.take_of_length_le (by rw [HN1.out]; omega)] at this
          exact this
        go_wp2
        go_ret
        exact ⟨ret_bool HE.out.symm, _, rfl⟩
  · have HE : Hid (decide (xs = ys) = false) := by show _ = _; rw [decide_eq_false_iff_not]; exact fun e => hl (by rw [e])
    have hne : ((xs.length : Int) != (ys.length : Int)) = true := by simp; omega
    clear hl
    go_enter Tryz.func66, Tryz.ntmps66
    go_wp2
    go_ret
    exact ⟨ret_bool HE.out.symm, 0, rfl⟩

end Go.Proofs.YtkmebilhbjcfpaaGreat

namespace Go.Proofs.YtkmebilhbjcfpaaGreat
open Go.RowKit
set_option linter.unusedVariables false

/-- Does a block in transit suit a run of n peers, whose writer has blocks bs and a head of length l0? -/
def pieceB (n : Nat) (l0 : Int) (bs : List ByteArray) (p : PcD) : Bool :=
  (decide (0 ≤ p.fr) && decide (p.fr ≤ (n : Int) - 1)) && ((decide (0 ≤ p.to) && decide (p.to ≤ (n : Int) - 1)) && ((decide (1 ≤ p.ln) && decide (p.ln ≤ l0)) && ((decide (0 ≤ p.ix) && decide (p.ix ≤ p.ln - 1)) && (decide (p.tx.size ≤ 8) && decide (p.pf = proofOr (leafL (bs.take p.ln.toNat)) p.ix)))))
theorem pieceB_iff (W : WD) (p : PcD) : pieceB W.fs.length (fth W.fs 0).l (fth W.fs 0).bs p = true ↔ PieceW W p := by
  unfold pieceB
  simp only [Bool.and_eq_true, decide_eq_true_eq]
  constructor
  · rintro ⟨⟨a1, a2⟩, ⟨a3, a4⟩, ⟨a5, a6⟩, ⟨a7, a8⟩, a9, a10⟩
    exact ⟨⟨a1, by omega⟩, ⟨a3, by omega⟩, ⟨a5, a6⟩, ⟨a7, by omega⟩, a9, a10⟩
  · rintro ⟨⟨a1, a2⟩, ⟨a3, a4⟩, ⟨a5, a6⟩, ⟨a7, a8⟩, a9, a10⟩
    exact ⟨⟨a1, by omega⟩, ⟨a3, by omega⟩, ⟨a5, a6⟩, ⟨a7, by omega⟩, a9, a10⟩

set_option maxHeartbeats 8000000 in
set_option maxRecDepth 100000 in
theorem spiece_any (sec bad : Int) (r : WR) (ls : List LinkD) (n2 : Nat) (q : QH) (w : World) (h : RunAt w w.heap.size r ls) (hq : QhAt w w.heap.size q) {m : Nat} (hm : r.fh.length = m) (hp : 0 < m)
    (hs : Short (fhth r.fh 0).f.bs) (h16 : (fhth r.fh 0).f.bs.length ≤ 16) (hl : ((fhth r.fh 0).f.bs.length : Int) = (fhth r.fh 0).f.l) :
    Calls Tryz.prog 26 #[.agg #[.int .i64 sec, .int .i64 bad, .slice r.A1 m r.c1, .slice r.A2 n2 r.c2, .slice r.A3 r.ah.length r.c3, .slice r.A4 r.qh.length r.c4], qhV q] w fun e w' => e = .returned (.bool (pieceB m (fhth r.fh 0).f.l (fhth r.fh 0).f.bs q.p)) ∧ Below w.heap.size w w' := by
  have hm1 := h.m1
  unfold maxLen at hm1
  rw [hm] at hm1
  obtain ⟨⟨fr, tq, ln, ix, tx, pf⟩, qa, qc⟩ := q
  obtain ⟨np, HNP⟩ : ∃ x, Hid (pf.length = x) := ⟨_, rfl⟩
  have hpm : np ≤ qc := by rw [← HNP.out]; exact hq.le
  have hpc := hq.most
  have htm := hq.tx
  unfold maxLen at hpc htm
  simp only at hpc htm
  have HPI := Lib.hid hq.ints
  obtain ⟨b, o, hA1⟩ := h.r1.some_ (by rw [hm]; exact hp)
  have c1 := (feed_cells6 (hA1 ▸ h.r1) 0 (by rw [hm]; exact hp)).2.1
  rw [show o + 0 * 6 + 1 = o + 1 by omega] at c1
  have hbl : b < w.heap.size := ((hA1 ▸ h.r1 : RowAt FK w w.heap.size (some ⟨b, o, none⟩) r.fh).lt (by rw [hm]; exact hp)).1
  have HRUN := Lib.hid h
  obtain ⟨F, HF0⟩ : ∃ x, Hid (fhth r.fh 0 = x) := ⟨_, rfl⟩
  rw [HF0.out] at hs h16 hl c1 ⊢
  have HM := Lib.hid hm
  have HSH := Lib.hid hs
  obtain ⟨bs, HBS⟩ : ∃ x, Hid (F.f.bs = x) := ⟨_, rfl⟩
  obtain ⟨l0, HL0⟩ : ∃ x, F.f.l = x := ⟨_, rfl⟩
  rw [HBS.out] at HSH h16 hl ⊢
  rw [HL0] at hl c1 ⊢
  have CL : Hid (∀ U, Below w.heap.size w U → ∀ k : Nat, k ≤ bs.length → Calls Tryz.prog 61 #[.agg #[.int .i64 sec, .int .i64 bad, .slice r.A1 m r.c1, .slice r.A2 n2 r.c2, .slice r.A3 r.ah.length r.c3, .slice r.A4 r.qh.length r.c4], .int .i64 (k : Int)] U (RetInts U (leafL (bs.take k)))) := fun U hU k hk => by
    have := sleavesW_any sec bad r ls n2 U (HRUN.out.belowS hU) (by rw [HM.out]; exact hp) k (by rw [HF0.out, HBS.out]; exact hk) (by rw [HF0.out, HBS.out]; exact HSH.out) (by rw [HF0.out, HBS.out]; omega)
    rw [HF0.out, HBS.out] at this
    rw [← HM.out]
    exact this
  rw [hA1] at CL ⊢
  clear hs hA1 hm h hq HL0
  obtain ⟨V0, HV0⟩ : ∃ W, Hid ((w.alloc (.cells #[.int .i64 sec, .int .i64 bad, .slice (some ⟨b, o, none⟩) m r.c1, .slice r.A2 n2 r.c2, .slice r.A3 r.ah.length r.c3, .slice r.A4 r.qh.length r.c4] 35)).alloc (.cells #[.int .i64 fr, .int .i64 tq, .int .i64 ln, .int .i64 ix, .string tx, .slice qa np qc] 62) = W) := ⟨_, rfl⟩
  have KA : Hid (Blk V0 w.heap.size 35 #[.int .i64 sec, .int .i64 bad, .slice (some ⟨b, o, none⟩) m r.c1, .slice r.A2 n2 r.c2, .slice r.A3 r.ah.length r.c3, .slice r.A4 r.qh.length r.c4]) := by rw [← HV0.out]; exact (Blk.new w _ _).alloc _
  have KP : Hid (Blk V0 (w.heap.size + 1) 62 #[.int .i64 fr, .int .i64 tq, .int .i64 ln, .int .i64 ix, .string tx, .slice qa np qc]) := by
    rw [← HV0.out]
    have := Blk.new (w.alloc (.cells #[.int .i64 sec, .int .i64 bad, .slice (some ⟨b, o, none⟩) m r.c1, .slice r.A2 n2 r.c2, .slice r.A3 r.ah.length r.c3, .slice r.A4 r.qh.length r.c4] 35)) 62 #[.int .i64 fr, .int .i64 tq, .int .i64 ln, .int .i64 ix, .string tx, .slice qa np qc]
    rwa [World.size_alloc] at this
  have HB : Hid (Below w.heap.size w V0) := by rw [← HV0.out]; exact ((Below.refl _ w).alloc (Nat.le_refl _) _).alloc (by rw [World.size_alloc]; omega) _
  obtain ⟨a0, a1, a2, a3, a4, a5⟩ := run_cells KA.out
  obtain ⟨p0, p1, p2, p3, p4, p5⟩ := run_cells KP.out
  have d1 := (HB.out.cell (p := ⟨b, o + 1, none⟩) hbl).trans c1
  have hbz : w.heap.size ≤ V0.heap.size := HB.out.size
  have hw1 : IntKind.i64.wrap ((m : Int) - 1) = (m : Int) - 1 := IntWalk.i64_in _ (by omega)
  obtain ⟨pz, HPZ⟩ : ∃ x, Hid (decide (pf = proofOr (leafL (bs.take ln.toNat)) ix) = x) := ⟨_, rfl⟩
  obtain ⟨res, HR2⟩ : ∃ x, Hid (pieceB m l0 bs ⟨fr, tq, ln, ix, tx, pf⟩ = x) := ⟨_, rfl⟩
  have HRES : Hid (res = ((decide (0 ≤ fr) && decide (fr ≤ (m : Int) - 1)) && ((decide (0 ≤ tq) && decide (tq ≤ (m : Int) - 1)) && ((decide (1 ≤ ln) && decide (ln ≤ l0)) && ((decide (0 ≤ ix) && decide (ix ≤ ln - 1)) && (decide (tx.size ≤ 8) && pz)))))) := by rw [← HPZ.out, ← HR2.out]; rfl
  unfold qhV
  dsimp only
  rw [HNP.out, HR2.out]
  go_enter Tryz.func26, Tryz.ntmps26
  go_upto_region 1 with fail
  rw [HV0.out]
  have C1 := Lib.hid (fun U => l6in_any fr 0 ((m : Int) - 1) U)
  have C2 := Lib.hid (fun U => l6in_any tq 0 ((m : Int) - 1) U)
  have C3 := Lib.hid (fun U => l6in_any ln 1 l0 U)
  have C4 := Lib.hid (fun U => l6in_any ix 0 (ln - 1) U)
  by_cases h0 : 0 ≤ fr ∧ fr ≤ (m : Int) - 1
  · have e0 : (decide (0 ≤ fr) && decide (fr ≤ (m : Int) - 1)) = true := by rw [decide_eq_true h0.1, decide_eq_true h0.2]; rfl
    rw [e0] at C1 HRES
    by_cases h1 : 0 ≤ tq ∧ tq ≤ (m : Int) - 1
    · have e1 : (decide (0 ≤ tq) && decide (tq ≤ (m : Int) - 1)) = true := by rw [decide_eq_true h1.1, decide_eq_true h1.2]; rfl
      rw [e1] at C2 HRES
      by_cases h2 : 1 ≤ ln ∧ ln ≤ l0
      · have e2 : (decide (1 ≤ ln) && decide (ln ≤ l0)) = true := by rw [decide_eq_true h2.1, decide_eq_true h2.2]; rfl
        rw [e2] at C3 HRES
        have hw2 : IntKind.i64.wrap (ln - 1) = ln - 1 := IntWalk.i64_in _ (by omega)
        by_cases h3 : 0 ≤ ix ∧ ix ≤ ln - 1
        · have e3 : (decide (0 ≤ ix) && decide (ix ≤ ln - 1)) = true := by rw [decide_eq_true h3.1, decide_eq_true h3.2]; rfl
          rw [e3] at C4 HRES
          by_cases h8 : tx.size ≤ 8
          · have h8d : decide (tx.size ≤ 8) = true := decide_eq_true h8
            have h8i : ¬ (8 : Int) < (tx.size : Int) := by omega
            rw [h8d] at HRES
            go_wp2_with fail
            go_quiet ((go_at_call 51; first | with_reducible exact Calls.quiet_of_same (C1.out _) | with_reducible exact Calls.quiet_of_same (C2.out _) | with_reducible exact Calls.quiet_of_same (C3.out _) | with_reducible exact Calls.quiet_of_same (C4.out _)))
            go_wp2_with fail
            obtain ⟨V1, HV1⟩ : ∃ U, Hid (V0.drewN nq = U) := ⟨_, rfl⟩
            have HB1 : Hid (Below w.heap.size w V1) := by rw [← HV1.out]; exact below_drewN HB.out _
            have KA1 := Lib.hid (KA.out.drewN nq)
            have KP1 := Lib.hid (KP.out.drewN nq)
            rw [HV1.out] at KA1 KP1
            rw [HV1.out]
            clear a0 a1 a2 a3 a4 a5 p0 p1 p2 p3 p4 p5 d1 C1 C2 C3 C4
            obtain ⟨a0, a1, a2, a3, a4, a5⟩ := run_cells KA1.out
            obtain ⟨p0, p1, p2, p3, p4, p5⟩ := run_cells KP1.out
            obtain ⟨k, rfl⟩ : ∃ k : Nat, ln = (k : Int) := ⟨ln.toNat, by omega⟩
            obtain ⟨j, rfl⟩ : ∃ k : Nat, ix = (k : Int) := ⟨ix.toNat, by omega⟩
            rw [Int.toNat_natCast] at HPZ
            have hkb : k ≤ bs.length := by omega
            have HLL : Hid ((leafL (bs.take k)).length = k) := by show _ = _; rw [leafL_length, List.length_take]; omega
            have hk0 : ¬ k = 0 := by omega
            have hz0 : w.heap.size < V1.heap.size := KA1.out.lt
            have hz1 : w.heap.size + 1 < V1.heap.size := KP1.out.lt
            go_region_held3 (fun w' => w'.cell? ⟨w.heap.size, 0, none⟩ = some (.int .i64 sec) ∧ w'.cell? ⟨w.heap.size, 1, none⟩ = some (.int .i64 bad) ∧ w'.cell? ⟨w.heap.size, 2, none⟩ = some (.slice (some ⟨b, o, none⟩) m r.c1) ∧ w'.cell? ⟨w.heap.size, 3, none⟩ = some (.slice r.A2 n2 r.c2) ∧ w'.cell? ⟨w.heap.size, 4, none⟩ = some (.slice r.A3 r.ah.length r.c3) ∧ w'.cell? ⟨w.heap.size, 5, none⟩ = some (.slice r.A4 r.qh.length r.c4) ∧ w'.cell? ⟨w.heap.size + 1, 2, none⟩ = some (.int .i64 (k : Int)) ∧ w'.cell? ⟨w.heap.size + 1, 3, none⟩ = some (.int .i64 (j : Int)) ∧ w'.cell? ⟨w.heap.size + 1, 5, none⟩ = some (.slice qa np qc)) (go_keep)
              (first
                | (go_at_call 61; (with_reducible refine (CL.out _ ?_ k hkb).mono ?_); exact below_drew HB1.out; rintro e w2 ⟨X2, c2, rfl, ho2, hb2⟩; have HB2 : Hid (Below V1.heap.size V1 w2) := below_drew_l hb2; have HB2w : Hid (Below w.heap.size w w2) := HB1.out.trans (HB2.out.mono HB1.out.size); have HO2 : Hid (OwnInts w2 V1.heap.size X2 c2 (leafL (bs.take k))) := ho2; obtain ⟨m0, m1, m2, m3, m4, m5⟩ := run_cells (KA1.out.below HB2.out hz0); obtain ⟨n0, n1, n2', n3, n4, n5⟩ := run_cells (KP1.out.below HB2.out hz1); clear hb2 ho2; rw [HLL.out])
                | (go_at_call 67; (with_reducible refine (stproof_own HO2.out HLL.out hk0 (j : Int)).mono ?_); rintro e w3 ⟨X3, c3, rfl, ho3, hb3⟩; have HB3 := Lib.hid hb3; have HO3 := Lib.hid ho3; obtain ⟨q0, q1, q2, q3, q4, q5⟩ := run_cells ((KA1.out.below HB2.out hz0).below HB3.out (Nat.lt_of_lt_of_le hz0 HB2.out.size)); obtain ⟨r0, r1, r2, r3, r4, r5⟩ := run_cells ((KP1.out.below HB2.out hz1).below HB3.out (Nat.lt_of_lt_of_le hz1 HB2.out.size)); clear hb3 ho3)
                | (go_at_call 66; have HB3w : Hid (Below w.heap.size w w3) := HB2w.out.trans (HB3.out.mono HB2w.out.size); have CS := ssame_any qa qc pf X3 c3 (proofOr (leafL (bs.take k)) (j : Int)) w3 (HPI.out.belowS HB3w.out) HO3.out.ints (by rw [HNP.out]; unfold maxLen; omega) (by have := proofOr_short (leafL (bs.take k)) (j : Int); unfold maxLen; omega); rw [HNP.out, HPZ.out] at CS; refine CS.mono ?_; rintro e w4 ⟨rfl, qn, rfl⟩; have HB4 : Hid (Below w.heap.size w (w3.drewN qn)) := below_drewN HB3w.out qn; clear CS))
            have HF : Hid (res = pz) := by show _ = _; rw [HRES.out]; rfl
            go_wp2
            go_ret
            exact ⟨ret_bool HF.out.symm, HB4.out⟩
          · have h8d : decide (tx.size ≤ 8) = false := decide_eq_false h8
            have h8i : (8 : Int) < (tx.size : Int) := by omega
            rw [h8d] at HRES
            have HF : Hid (res = false) := by show _ = _; rw [HRES.out]; rfl
            go_wp2_with fail
            go_quiet ((go_at_call 51; first | with_reducible exact Calls.quiet_of_same (C1.out _) | with_reducible exact Calls.quiet_of_same (C2.out _) | with_reducible exact Calls.quiet_of_same (C3.out _) | with_reducible exact Calls.quiet_of_same (C4.out _)))
            go_wp2
            go_ret
            exact ⟨ret_bool HF.out.symm, below_drewN HB.out _⟩
        · have e3 : (decide (0 ≤ ix) && decide (ix ≤ ln - 1)) = false := by
            rw [Bool.eq_false_iff]; intro e; rw [Bool.and_eq_true, decide_eq_true_eq, decide_eq_true_eq] at e; exact h3 e
          rw [e3] at C4 HRES
          have HF : Hid (res = false) := by show _ = _; rw [HRES.out]; rfl
          go_wp2_with fail
          go_quiet ((go_at_call 51; first | with_reducible exact Calls.quiet_of_same (C1.out _) | with_reducible exact Calls.quiet_of_same (C2.out _) | with_reducible exact Calls.quiet_of_same (C3.out _) | with_reducible exact Calls.quiet_of_same (C4.out _)))
          go_wp2
          go_ret
          exact ⟨ret_bool HF.out.symm, below_drewN HB.out _⟩
      · have e2 : (decide (1 ≤ ln) && decide (ln ≤ l0)) = false := by
          rw [Bool.eq_false_iff]; intro e; rw [Bool.and_eq_true, decide_eq_true_eq, decide_eq_true_eq] at e; exact h2 e
        rw [e2] at C3 HRES
        have HF : Hid (res = false) := by show _ = _; rw [HRES.out]; rfl
        go_wp2_with fail
        go_quiet ((go_at_call 51; first | with_reducible exact Calls.quiet_of_same (C1.out _) | with_reducible exact Calls.quiet_of_same (C2.out _) | with_reducible exact Calls.quiet_of_same (C3.out _) | with_reducible exact Calls.quiet_of_same (C4.out _)))
        go_wp2
        go_ret
        exact ⟨ret_bool HF.out.symm, below_drewN HB.out _⟩
    · have e1 : (decide (0 ≤ tq) && decide (tq ≤ (m : Int) - 1)) = false := by
        rw [Bool.eq_false_iff]; intro e; rw [Bool.and_eq_true, decide_eq_true_eq, decide_eq_true_eq] at e; exact h1 e
      rw [e1] at C2 HRES
      have HF : Hid (res = false) := by show _ = _; rw [HRES.out]; rfl
      go_wp2_with fail
      go_quiet ((go_at_call 51; first | with_reducible exact Calls.quiet_of_same (C1.out _) | with_reducible exact Calls.quiet_of_same (C2.out _) | with_reducible exact Calls.quiet_of_same (C3.out _) | with_reducible exact Calls.quiet_of_same (C4.out _)))
      go_wp2
      go_ret
      exact ⟨ret_bool HF.out.symm, below_drewN HB.out _⟩
  · have e0 : (decide (0 ≤ fr) && decide (fr ≤ (m : Int) - 1)) = false := by
      rw [Bool.eq_false_iff]; intro e; rw [Bool.and_eq_true, decide_eq_true_eq, decide_eq_true_eq] at e; exact h0 e
    rw [e0] at C1 HRES
    have HF : Hid (res = false) := by show _ = _; rw [HRES.out]; rfl
    go_wp2_with fail
    go_quiet ((go_at_call 51; first | with_reducible exact Calls.quiet_of_same (C1.out _) | with_reducible exact Calls.quiet_of_same (C2.out _) | with_reducible exact Calls.quiet_of_same (C3.out _) | with_reducible exact Calls.quiet_of_same (C4.out _)))
    go_wp2
    go_ret
    exact ⟨ret_bool HF.out.symm, below_drewN HB.out _⟩
end Go.Proofs.YtkmebilhbjcfpaaGreat

namespace Go.Proofs.YtkmebilhbjcfpaaGreat
open Go.RowKit
set_option linter.unusedVariables false

set_option maxHeartbeats 3000000 in
set_option maxRecDepth 100000 in
theorem sleavesW_some (sec bad : Int) (r : WR) (ls : List LinkD) (n2 : Nat) (w : World) (h : RunAt w w.heap.size r ls) (hp : 0 < r.fh.length) (n : Nat) (hn : n ≤ (fhth r.fh 0).f.bs.length) (hs : Short (fhth r.fh 0).f.bs) (hm : (fhth r.fh 0).f.bs.length ≤ 1048576) :
    Calls Tryz.prog 61 #[runV sec bad r n2, .int .i64 (n : Int)] w (RetSome w (leafL ((fhth r.fh 0).f.bs.take n))) := by
  have hF := h.feed 0 hp
  obtain ⟨b, o, hA1⟩ := h.r1.some_ hp
  have hc := (feed_cells6 (hA1 ▸ h.r1) 0 hp).2.2.2.2.1
  have hlt : b < w.heap.size := ((hA1 ▸ h.r1 : RowAt FK w w.heap.size (some ⟨b, o, none⟩) r.fh).lt hp).1
  obtain ⟨H, hH⟩ : ∃ x, fhth r.fh 0 = x := ⟨_, rfl⟩
  rw [hH] at hF hc hn hs hm ⊢
  obtain ⟨W, HW⟩ : ∃ W, Hid (w.alloc (.cells #[.int .i64 sec, .int .i64 bad, .slice r.A1 r.fh.length r.c1, .slice r.A2 n2 r.c2, .slice r.A3 r.ah.length r.c3, .slice r.A4 r.qh.length r.c4] 35) = W) := ⟨_, rfl⟩
  have KA : Hid (Blk W w.heap.size 35 #[.int .i64 sec, .int .i64 bad, .slice r.A1 r.fh.length r.c1, .slice r.A2 n2 r.c2, .slice r.A3 r.ah.length r.c3, .slice r.A4 r.qh.length r.c4]) := by rw [← HW.out]; exact Blk.new w _ _
  have HB : Hid (Below w.heap.size w W) := by rw [← HW.out]; exact (Below.refl _ w).alloc (Nat.le_refl _) _
  have k2 := (run_cells KA.out).2.2.1
  have c4 := (HB.out.cell (p := ⟨b, o + 0 * 6 + 4, none⟩) hlt).trans hc
  rw [show o + 0 * 6 + 4 = o + 4 by omega] at c4
  obtain ⟨N1, HN1⟩ : ∃ n, Hid (r.fh.length = n) := ⟨_, rfl⟩
  rw [hA1, HN1.out] at k2
  have hp1 : 0 < N1 := by rw [← HN1.out]; exact hp
  have hI : Hid (StrsAt W W.heap.size H.a1 (H.f.bs.take n)) := (hF.feed.strs.belowS HB.out).first n
  have hS : Short (H.f.bs.take n) := fun k hk => by
    rw [List.length_take] at hk
    have e : sth (H.f.bs.take n) k = sth H.f.bs k := by
      unfold sth; rw [List.getD_eq_getElem?_getD, List.getElem?_take_of_lt (by omega), List.getD_eq_getElem?_getD]
    rw [e]; exact hs k (by omega)
  have C := Lib.hid (sleaves_some H.a1 H.c1 (H.f.bs.take n) W hI.out hS (by rw [List.length_take]; omega))
  rw [List.length_take, show min n H.f.bs.length = n by omega] at C
  have hcap : n ≤ H.c1 := Nat.le_trans hn hF.le1.1
  have hcm := hF.le1.2
  unfold maxLen at hcm
  obtain ⟨m1, HM1⟩ : ∃ m, Hid (H.f.bs.length = m) := ⟨_, rfl⟩
  obtain ⟨x1, HX1⟩ : ∃ m, Hid (H.a1 = m) := ⟨_, rfl⟩
  obtain ⟨y1, HY1⟩ : ∃ m, H.c1 = m := ⟨_, rfl⟩
  rw [HM1.out, HX1.out, HY1] at c4
  rw [HX1.out, HY1] at C
  rw [HY1] at hcap hcm
  have hbz : w.heap.size ≤ W.heap.size := HB.out.size
  clear hF hc hn hs hS hm hA1 hH h hp hI HY1
  go_enter Tryz.func61, Tryz.ntmps61
  go_upto_region 1 with fail
  rw [HW.out]
  go_wp2_with fail
  refine C.out.mono ?_
  rintro e w2 ⟨A, c, rfl, ho, hb⟩
  have HO := Lib.hid (ho.base_le hbz)
  have HB2 : Hid (Below w.heap.size w w2) := HB.out.trans (hb.mono hbz)
  clear ho hb
  go_wp2
  go_ret
  exact ⟨A, c, rfl, HO.out, HB2.out⟩


/-- Are the blocks of a feed that are there those of the writer? -/
def sameB (f : FD) (bs0 : List ByteArray) : Bool := (List.range f.bs.length).all (fun i => !bth f.hs i || (textOr (sth f.bs i) == textOr (sth bs0 i)))
/-- Is the head of a feed that of so many first blocks of the writer? -/
def headB (sec : Int) (bs0 : List ByteArray) (f : FD) : Bool :=
  decide (f.l = 0) || (decide (f.l = madeL sec (leafL (bs0.take f.l.toNat))) && (decide (f.d = madeD sec (leafL (bs0.take f.l.toNat))) && decide (f.s = madeS sec (leafL (bs0.take f.l.toNat)))))
/-- Does a feed suit a run whose writer has blocks bs0 and a head of length l0? -/
def feedB (sec l0 : Int) (bs0 : List ByteArray) (f : FD) : Bool := okB f && (decide (f.p = publicOr sec) && (decide (f.l ≤ l0) && (sameB f bs0 && headB sec bs0 f)))
theorem sameB_iff (f : FD) (bs0 : List ByteArray) : sameB f bs0 = true ↔ ∀ i, i < f.bs.length → bth f.hs i = true → textOr (sth f.bs i) = textOr (sth bs0 i) := by
  unfold sameB
  rw [List.all_eq_true]
  constructor
  · intro h i hi hb
    have := h i (List.mem_range.2 hi)
    rw [hb] at this
    simpa using this
  · intro h i hi
    cases hb : bth f.hs i with
    | false => rfl
    | true => simpa using h i (List.mem_range.1 hi) hb
theorem headB_iff (sec : Int) (bs0 : List ByteArray) (f : FD) : headB sec bs0 f = true ↔ (f.l = 0 ∨ (f.l = madeL sec (leafL (bs0.take f.l.toNat)) ∧ f.d = madeD sec (leafL (bs0.take f.l.toNat)) ∧ f.s = madeS sec (leafL (bs0.take f.l.toNat)))) := by
  unfold headB
  simp only [Bool.or_eq_true, Bool.and_eq_true, decide_eq_true_eq]
theorem feedB_iff (W : WD) (f : FD) : feedB W.sec (fth W.fs 0).l (fth W.fs 0).bs f = true ↔ FeedW W f := by
  unfold feedB
  simp only [Bool.and_eq_true, decide_eq_true_eq]
  rw [sameB_iff, headB_iff]
  exact ⟨fun ⟨a, b, c, d, e⟩ => ⟨a, b, c, d, e⟩, fun ⟨a, b, c, d, e⟩ => ⟨a, b, c, d, e⟩⟩
end Go.Proofs.YtkmebilhbjcfpaaGreat
