/- The blocks that a journal tells: plain mathematics, and the contract of JournalBlocks. Condition: the journal lies in memory. -/
import Derived.Test.YtmddfjfflgfdlaaSJournal
import Derived.Deep.QuietTactic
import Derived.BigQuiet
import Derived.Test.YtmddfjfflgfdlaaBaseL
import Derived.Test.YtmddfjfflgfdlaaBaseD
namespace Go.Proofs.Ytmddfjfflgfdlaa
open Go.RowKit Go.Conc
set_option linter.unusedVariables false

/-- The texts that records tell, of so many blocks. -/
def blkS (rs : List RD) (n : Nat) : List ByteArray := rs.foldl (fun bs r => bs.set r.i.toNat r.t) (noS n)
/-- Which of the blocks there are. -/
def blkH (rs : List RD) (n : Nat) : List Bool := rs.foldl (fun hs r => hs.set r.i.toNat true) (noB n)
theorem blkS_snoc (rs : List RD) (r : RD) (n : Nat) : blkS (rs ++ [r]) n = (blkS rs n).set r.i.toNat r.t := by unfold blkS; rw [List.foldl_append]; rfl
theorem blkH_snoc (rs : List RD) (r : RD) (n : Nat) : blkH (rs ++ [r]) n = (blkH rs n).set r.i.toNat true := by unfold blkH; rw [List.foldl_append]; rfl
theorem foldS_length (rs : List RD) : ∀ bs : List ByteArray, (rs.foldl (fun bs r => bs.set r.i.toNat r.t) bs).length = bs.length := by
  induction rs with
  | nil => intro bs; rfl
  | cons r rs ih => intro bs; rw [List.foldl_cons, ih, List.length_set]
theorem foldH_length (rs : List RD) : ∀ bs : List Bool, (rs.foldl (fun bs r => bs.set r.i.toNat true) bs).length = bs.length := by
  induction rs with
  | nil => intro bs; rfl
  | cons r rs ih => intro bs; rw [List.foldl_cons, ih, List.length_set]
theorem blkS_length (rs : List RD) (n : Nat) : (blkS rs n).length = n := by unfold blkS; rw [foldS_length, noS_length]
theorem blkH_length (rs : List RD) (n : Nat) : (blkH rs n).length = n := by unfold blkH; rw [foldH_length, noB_length]
/-- Is the length one that is asked for rightly? -/
def blkOk (rs : List RD) (s len : Int) : Bool := jokB rs s && decide (0 ≤ len ∧ len ≤ 16)
def blkA (rs : List RD) (s len : Int) : List ByteArray := if blkOk rs s len = true then blkS rs len.toNat else []
def blkB (rs : List RD) (s len : Int) : List Bool := if blkOk rs s len = true then blkH rs len.toNat else []
theorem sals_set (bs : List ByteArray) (j : Nat) (x : ByteArray) : (sals bs).toArray.setIfInBounds j (.string x) = (sals (bs.set j x)).toArray := by
  unfold sals; rw [List.setIfInBounds_toArray, List.map_set]
theorem bals_set (bs : List Bool) (j : Nat) (x : Bool) : (bals bs).toArray.setIfInBounds j (.bool x) = (bals (bs.set j x)).toArray := by
  unfold bals; rw [List.setIfInBounds_toArray, List.map_set]
theorem owns_row {w : World} {g base : Nat} {zs : List ByteArray} (h : Blk w g 9 (sals zs).toArray) (hb : base ≤ g) (hl : zs.length ≤ maxLen) : OwnStrs w base (some ⟨g, 0, none⟩) zs.length zs :=
  ⟨by rw [sals_length, Nat.mul_one], .inr ⟨g, zs.length, _, rfl, hb, h, Nat.le_refl _, hl, by rw [List.size_toArray, sals_length, Nat.mul_one], by rw [Nat.mul_one]; exact List.take_of_length_le (by rw [sals_length]; exact Nat.le_refl _)⟩⟩
theorem ownb_row {w : World} {g base : Nat} {zs : List Bool} (h : Blk w g 4 (bals zs).toArray) (hb : base ≤ g) (hl : zs.length ≤ maxLen) : OwnBools w base (some ⟨g, 0, none⟩) zs.length zs :=
  ⟨by rw [bals_length, Nat.mul_one], .inr ⟨g, zs.length, _, rfl, hb, h, Nat.le_refl _, hl, by rw [List.size_toArray, bals_length, Nat.mul_one], by rw [Nat.mul_one]; exact List.take_of_length_le (by rw [bals_length]; exact Nat.le_refl _)⟩⟩
theorem fit_foldS (rs : List RD) (hf : ∀ x ∈ rs, x.t.size ≤ maxLen) : ∀ bs : List ByteArray, (∀ x ∈ bs, x.size ≤ maxLen) → ∀ x ∈ rs.foldl (fun bs r => bs.set r.i.toNat r.t) bs, x.size ≤ maxLen := by
  induction rs with
  | nil => intro bs h; exact h
  | cons r rs ih =>
    intro bs h
    rw [List.foldl_cons]
    refine ih (fun x hx => hf x (List.mem_cons_of_mem _ hx)) _ fun x hx => ?_
    rcases List.mem_or_eq_of_mem_set hx with h1 | h1
    · exact h x h1
    · rw [h1]; exact hf r List.mem_cons_self

/-- What JournalBlocks hands back: texts and bits in memory of its own. -/
def RetB (w : World) (bs : List ByteArray) (hs : List Bool) (e : Ending) (w' : World) : Prop :=
  ∃ g1 c1 g2 c2, e = .returned (.tuple #[.slice (some ⟨g1, 0, none⟩) bs.length c1, .slice (some ⟨g2, 0, none⟩) hs.length c2]) ∧ OwnStrs w' w.heap.size (some ⟨g1, 0, none⟩) c1 bs ∧ OwnBools w' w.heap.size (some ⟨g2, 0, none⟩) c2 hs ∧ Below w.heap.size w w'

/-- Where the loop stands: the two rows and the journal's block. -/
structure Bl (w : World) (A : Option Addr) (nr cap : Nat) (s : Int) (g1 g2 : Nat) (bs : List ByteArray) (hs : List Bool) (wx : World) : Prop where
  k1 : Blk wx g1 9 (sals bs).toArray
  k2 : Blk wx g2 4 (bals hs).toArray
  kj : Blk wx w.heap.size 29 #[.slice A nr cap, .int .i64 s]
  below : Below w.heap.size w wx
  b1 : w.heap.size < g1
  b2 : w.heap.size < g2
  ne : g1 ≠ g2
section
variable {w wx wy : World} {A : Option Addr} {nr cap g1 g2 : Nat} {s : Int} {bs : List ByteArray} {hs : List Bool}
theorem Bl.then_ (h : Bl w A nr cap s g1 g2 bs hs wx) (hb : Below wx.heap.size wx wy) : Bl w A nr cap s g1 g2 bs hs wy :=
  ⟨h.k1.below hb h.k1.lt, h.k2.below hb h.k2.lt, h.kj.below hb h.kj.lt, h.below.trans (hb.mono h.below.size), h.b1, h.b2, h.ne⟩
theorem Bl.drew (h : Bl w A nr cap s g1 g2 bs hs wx) : Bl w A nr cap s g1 g2 bs hs wx.drew := ⟨h.k1, h.k2, h.kj, below_drew h.below, h.b1, h.b2, h.ne⟩
theorem Bl.chan (h : Bl w A nr cap s g1 g2 bs hs wx) {c : Nat} (hc : w.heap.size < c) (h1 : c ≠ g1) (h2 : c ≠ g2) (cp : Nat) (buf : Array Value) (cl : Bool) (a b : Nat) (tm : Bool) : Bl w A nr cap s g1 g2 bs hs (wx.setChan c cp buf cl a b tm) := by
  have hk : ∀ i, i ≠ c → (wx.setChan c cp buf cl a b tm).heap[i]? = wx.heap[i]? := fun i hi => by
    show (wx.heap.setIfInBounds c _)[i]? = _
    rw [Array.getElem?_setIfInBounds_ne (fun e => hi e.symm)]
  exact ⟨(hk g1 (fun e => h1 e.symm)).trans h.k1, (hk g2 (fun e => h2 e.symm)).trans h.k2, (hk w.heap.size (by omega)).trans h.kj, below_setChan h.below (by omega) _ _ _ _ _ _, h.b1, h.b2, h.ne⟩
theorem Bl.putS (h : Bl w A nr cap s g1 g2 bs hs wx) (j : Nat) (x : ByteArray) : Bl w A nr cap s g1 g2 (bs.set j x) hs (wx.setCell ⟨g1, j, none⟩ (.string x)) := by
  have hk1 := h.k1.setOwn j (.string x)
  rw [sals_set] at hk1
  exact ⟨hk1, h.k2.setOther (p := ⟨g1, j, none⟩) h.ne _, h.kj.setOther (p := ⟨g1, j, none⟩) (by show g1 ≠ _; have := h.b1; omega) _, h.below.setCell (p := ⟨g1, j, none⟩) (by show _ ≤ g1; have := h.b1; omega) _, h.b1, h.b2, h.ne⟩
theorem Bl.putB (h : Bl w A nr cap s g1 g2 bs hs wx) (j : Nat) (x : Bool) : Bl w A nr cap s g1 g2 bs (hs.set j x) (wx.setCell ⟨g2, j, none⟩ (.bool x)) := by
  have hk2 := h.k2.setOwn j (.bool x)
  rw [bals_set] at hk2
  exact ⟨h.k1.setOther (p := ⟨g2, j, none⟩) (fun e => h.ne e.symm) _, hk2, h.kj.setOther (p := ⟨g2, j, none⟩) (by show g2 ≠ _; have := h.b2; omega) _, h.below.setCell (p := ⟨g2, j, none⟩) (by show _ ≤ g2; have := h.b2; omega) _, h.b1, h.b2, h.ne⟩
theorem Bl.cells (h : Bl w A nr cap s g1 g2 bs hs wx) (j : Nat) (h1 : j < bs.length) (h2 : j < hs.length) : wx.cell? ⟨g1, j, none⟩ = some (.string (sth bs j)) ∧ wx.frozen? ⟨g1, j, none⟩ = false ∧ wx.cell? ⟨g2, j, none⟩ = some (.bool (bth hs j)) ∧ wx.frozen? ⟨g2, j, none⟩ = false := by
  refine ⟨?_, blk_frozen h.k1 j, ?_, blk_frozen h.k2 j⟩
  · rw [h.k1.cell j, List.getElem?_toArray]; exact sals_get bs j h1
  · rw [h.k2.cell j, List.getElem?_toArray]; exact bals_get hs j h2
end

set_option maxHeartbeats 8000000 in
set_option maxRecDepth 100000 in
theorem jblocks_any (A : Option Addr) (cap : Nat) (s len : Int) (rs : List RD) (w : World) (hJ : JAt w w.heap.size A cap rs) :
    Calls Try.prog 24 #[journalV A rs.length cap s, .int .i64 len] w (RetB w (blkA rs s len) (blkB rs s len)) := by
  have HJ := Lib.hid hJ
  have CV : Hid (∀ U, Below w.heap.size w U → Calls Try.prog 11 #[journalV A rs.length cap s] U fun e w' => e = .returned (.bool (jokB rs s)) ∧ Below U.heap.size U w') := fun U hU => jvalid_any A cap s rs U (hJ.belowS hU)
  have CQ : Hid (rs.length ≤ 20 → ∀ U, Below w.heap.size w U → Calls Try.prog 40 #[.slice A rs.length cap] U (Queued U rs)) := fun h20 U hU => recordQueue_any A cap rs U (hJ.belowS hU).row h20
  clear hJ
  obtain ⟨nr, HN⟩ : ∃ n, Hid (rs.length = n) := ⟨_, rfl⟩
  rw [HN.out] at CV CQ ⊢
  obtain ⟨W, HW⟩ : ∃ W, Hid (w.alloc (.cells #[.slice A nr cap, .int .i64 s] 29) = W) := ⟨_, rfl⟩
  have KJ : Hid (Blk W w.heap.size 29 #[.slice A nr cap, .int .i64 s]) := by rw [← HW.out]; exact Blk.new w _ _
  have HB : Hid (Below w.heap.size w W) := by rw [← HW.out]; exact (Below.refl _ w).alloc (Nat.le_refl _) _
  have FIN : Hid (blkOk rs s len = false → ∀ U, Below w.heap.size w U → w.heap.size ≤ U.heap.size → RetB w (blkA rs s len) (blkB rs s len) (.returned (.tuple #[.slice (some ⟨U.heap.size, 0, none⟩) 0 0, .slice (some ⟨U.heap.size + 1, 0, none⟩) 0 0])) ((U.alloc (.cells #[] 9)).alloc (.cells #[] 4))) := fun h U hU hz => by
    have e1 : blkA rs s len = [] := by unfold blkA; rw [h]; rfl
    have e2 : blkB rs s len = [] := by unfold blkB; rw [h]; rfl
    rw [e1, e2]
    have k1 : Blk ((U.alloc (.cells #[] 9)).alloc (.cells #[] 4)) U.heap.size 9 (sals []).toArray := (Blk.new U 9 #[]).alloc _
    have k2 : Blk ((U.alloc (.cells #[] 9)).alloc (.cells #[] 4)) (U.heap.size + 1) 4 (bals []).toArray := by
      have h := Blk.new (U.alloc (.cells #[] 9)) 4 #[]
      rw [World.size_alloc] at h
      exact h
    exact ⟨U.heap.size, 0, U.heap.size + 1, 0, rfl, owns_row k1 hz (Nat.zero_le _), ownb_row k2 (by omega) (Nat.zero_le _), (hU.alloc hz _).alloc (by rw [World.size_alloc]; omega) _⟩
  cases hO : jokB rs s with
  | false =>
    have hno : blkOk rs s len = false := by unfold blkOk; rw [hO]; rfl
    have FIN2 := Lib.hid (FIN.out hno)
    rw [hO] at CV
    clear hO hno FIN CQ
    go_enter Try.func24, Try.ntmps24
    go_wp2_with fail
    rw [HW.out]
    refine (CV.out _ HB.out).mono ?_
    rintro e w1 ⟨rfl, hb1⟩
    have KJ1 := Lib.hid (KJ.out.below hb1 KJ.out.lt)
    have HB1 : Hid (Below w.heap.size w w1) := HB.out.trans (hb1.mono HB.out.size)
    clear hb1
    go_wp2
    go_ret2
    exact FIN2.out _ HB1.out HB1.out.size
  | true =>
    have h20 := ((jokB_iff _ _).1 hO).1
    rw [HN.out] at h20
    have CQ2 := Lib.hid (CQ.out h20)
    have HALL := Lib.hid ((allB_iff _).1 ((jokB_iff _ _).1 hO).2.2.2)
    have HO := Lib.hid hO
    rw [hO] at CV
    clear CQ hO
    by_cases hl0 : 0 ≤ len
    · have hl0i : ¬ len < 0 := by omega
      by_cases hl1 : len ≤ 16
      · have hl1i : ¬ 16 < len := by omega
        obtain ⟨n, hn⟩ : ∃ v : Nat, len = (v : Int) := ⟨len.toNat, by omega⟩
        subst hn
        have hn16 : n ≤ 16 := by omega
        have hok : blkOk rs s (n : Int) = true := by unfold blkOk; rw [HO.out, decide_eq_true ⟨hl0, hl1⟩]; rfl
        have HEA : Hid (blkA rs s (n : Int) = blkS rs n) := by show _ = _; unfold blkA; rw [if_pos hok]; rfl
        have HEB : Hid (blkB rs s (n : Int) = blkH rs n) := by show _ = _; unfold blkB; rw [if_pos hok]; rfl
        rw [HEA.out, HEB.out]
        have hmkS := run_make_row' (P := Try.prog) 45 9 (.string ByteArray.empty) 16 Try.underlying45 string_info rfl .i64 .i64 n (by omega) (by omega)
        simp only [madeCells_sals] at hmkS
        have hmkB := run_make_row' (P := Try.prog) 46 4 (.bool false) 1 Try.underlying46 bool_info rfl .i64 .i64 n (by omega) (by omega)
        simp only [madeCells_bals] at hmkB
        clear hok FIN hl0 hl1
        go_enter Try.func24, Try.ntmps24
        go_wp2_with fail
        rw [HW.out]
        refine (CV.out _ HB.out).mono ?_
        rintro e w1 ⟨rfl, hb1⟩
        have KJ1 := Lib.hid (KJ.out.below hb1 KJ.out.lt)
        have HB1 : Hid (Below w.heap.size w w1) := HB.out.trans (hb1.mono HB.out.size)
        clear hb1
        go_upto_region 3 with fail
        go_cut [6, 7] (fun s6 s7 wx => ∃ g1 g2 : Nat, s6 = .slice (some ⟨g1, 0, none⟩) n n ∧ s7 = .slice (some ⟨g2, 0, none⟩) n n ∧ Hid (Bl w A nr cap s g1 g2 (noS n) (noB n) wx))
        case first =>
          (try go_wp2_with fail)
          refine wp_region_held_drew (S := (fun _ => True)) (by kernel_rfl) (trivial) (fun hHeld => ?_)
          obtain ⟨U0, HU0⟩ : ∃ U, Hid (w1.drew = U) := ⟨_, rfl⟩
          have KM0 : Hid (Blk U0 w.heap.size 29 #[.slice A nr cap, .int .i64 s]) := by rw [← HU0.out]; exact KJ1.out
          have HM0 : Hid (Below w.heap.size w U0) := by rw [← HU0.out]; exact below_drew HB1.out
          rw [HU0.out]
          refine wpAnyH_take (i := 0) (v := ?zv20001) rfl (by kernel_rfl) (by kernel_rfl) (by kernel_rfl) (fun _ _ _ h => h) (Or.inl ⟨by kernel_rfl, ?zy20001⟩) (by assumption) ?zr20001
          case zy20001 => (intro w hSw; (try dsimp only at hSw); go_simp; try with_reducible rfl)
          change wpAnyH _ _ _ _ _ _ _ (Act.put _ (some 23) _) _
          simp only [Act.put, List.setIfInBounds_toArray, List.set_cons_zero, List.set_cons_succ]
          refine wpAnyH_take (i := 2) (v := ?zv20002) rfl (by kernel_rfl) (by kernel_rfl) (by kernel_rfl) (fun _ _ _ h => h) (Or.inl ⟨by kernel_rfl, ?zy20002⟩) (by assumption) ?zr20002
          case zy20002 => (intro w hSw; (try dsimp only at hSw); go_simp; try with_reducible rfl)
          change wpAnyH _ _ _ _ _ _ _ (Act.put _ (some 25) _) _
          simp only [Act.put, List.setIfInBounds_toArray, List.set_cons_zero, List.set_cons_succ]
          refine wpAnyH_ready (rs := [1, 3]) (by kernel_rfl) (by simp) (AllReadyH.cons rfl (fun K hK => ?zo20003_0) (AllReadyH.cons rfl (fun K hK => ?zo20003_1) AllReadyH.nil))
          case zo20003_0 =>
            go_simp
            refine hK.out _ _ (trivial) (fun hHeld => ?_)
            clear hK K
            (try simp only [Act.put, List.setIfInBounds_toArray, List.set_cons_zero, List.set_cons_succ])
            obtain ⟨U1, HU1⟩ : ∃ U, Hid (U0.alloc (.cells (sals (noS n)).toArray 9) = U) := ⟨_, rfl⟩
            have hb1 : Below U0.heap.size U0 U1 := by rw [← HU1.out]; exact (Below.refl _ _).alloc (Nat.le_refl _) _
            have KM1 := Lib.hid (KM0.out.below hb1 KM0.out.lt)
            have HM1 : Hid (Below w.heap.size w U1) := HM0.out.trans (hb1.mono HM0.out.size)
            have KS1 : Hid (Blk U1 U0.heap.size 9 (sals (noS n)).toArray) := by rw [← HU1.out]; exact Blk.new U0 _ _
            have hzw1 : w.heap.size < U0.heap.size := KM0.out.lt
            clear hb1
            rw [HU1.out]
            refine wpAnyH_take (i := 4) (v := ?zv20004) rfl (by kernel_rfl) (by kernel_rfl) (by kernel_rfl) (fun _ _ _ h => h) (Or.inl ⟨by kernel_rfl, ?zy20004⟩) (by assumption) ?zr20004
            case zy20004 => (intro w hSw; (try dsimp only at hSw); go_simp; try with_reducible rfl)
            change wpAnyH _ _ _ _ _ _ _ (Act.put _ (some 6) _) _
            simp only [Act.put, List.setIfInBounds_toArray, List.set_cons_zero, List.set_cons_succ]
            refine wpAnyH_ready (rs := [3]) (by kernel_rfl) (by simp) (AllReadyH.cons rfl (fun K hK => ?zo20005_0) AllReadyH.nil)
            case zo20005_0 =>
              go_simp
              refine hK.out _ _ (trivial) (fun hHeld => ?_)
              clear hK K
              (try simp only [Act.put, List.setIfInBounds_toArray, List.set_cons_zero, List.set_cons_succ])
              obtain ⟨U2, HU2⟩ : ∃ U, Hid (U1.alloc (.cells (bals (noB n)).toArray 4) = U) := ⟨_, rfl⟩
              have hb2 : Below U1.heap.size U1 U2 := by rw [← HU2.out]; exact (Below.refl _ _).alloc (Nat.le_refl _) _
              have KM2 := Lib.hid (KM1.out.below hb2 KM1.out.lt)
              have HM2 : Hid (Below w.heap.size w U2) := HM1.out.trans (hb2.mono HM1.out.size)
              have KS2 := Lib.hid (KS1.out.below hb2 KS1.out.lt)
              have KB2 : Hid (Blk U2 U1.heap.size 4 (bals (noB n)).toArray) := by rw [← HU2.out]; exact Blk.new U1 _ _
              have hzw2 : w.heap.size < U1.heap.size := KM1.out.lt
              have hzo2 : U0.heap.size < U1.heap.size := KS1.out.lt
              clear hb2
              rw [HU2.out]
              refine wpAnyH_take (i := 5) (v := ?zv20006) rfl (by kernel_rfl) (by kernel_rfl) (by kernel_rfl) (fun _ _ _ h => h) (Or.inl ⟨by kernel_rfl, ?zy20006⟩) (by assumption) ?zr20006
              case zy20006 => (intro w hSw; (try dsimp only at hSw); go_simp; try with_reducible rfl)
              change wpAnyH _ _ _ _ _ _ _ (Act.put _ (some 7) _) _
              simp only [Act.put, List.setIfInBounds_toArray, List.set_cons_zero, List.set_cons_succ]
              refine wpAnyH_done (by kernel_rfl) ?_ _
              (try go_wp2_with fail)
              go_meet
              exact ⟨U0.heap.size, U1.heap.size, rfl, rfl, ⟨KS2.out, KB2.out, KM2.out, HM2.out, by omega, by omega, by omega⟩⟩
          case zo20003_1 =>
            go_simp
            refine hK.out _ _ (trivial) (fun hHeld => ?_)
            clear hK K
            (try simp only [Act.put, List.setIfInBounds_toArray, List.set_cons_zero, List.set_cons_succ])
            obtain ⟨U1, HU1⟩ : ∃ U, Hid (U0.alloc (.cells (bals (noB n)).toArray 4) = U) := ⟨_, rfl⟩
            have hb1 : Below U0.heap.size U0 U1 := by rw [← HU1.out]; exact (Below.refl _ _).alloc (Nat.le_refl _) _
            have KM1 := Lib.hid (KM0.out.below hb1 KM0.out.lt)
            have HM1 : Hid (Below w.heap.size w U1) := HM0.out.trans (hb1.mono HM0.out.size)
            have KB1 : Hid (Blk U1 U0.heap.size 4 (bals (noB n)).toArray) := by rw [← HU1.out]; exact Blk.new U0 _ _
            have hzw1 : w.heap.size < U0.heap.size := KM0.out.lt
            clear hb1
            rw [HU1.out]
            refine wpAnyH_ready (rs := [1]) (by kernel_rfl) (by simp) (AllReadyH.cons rfl (fun K hK => ?zo20007_0) AllReadyH.nil)
            case zo20007_0 =>
              go_simp
              refine hK.out _ _ (trivial) (fun hHeld => ?_)
              clear hK K
              (try simp only [Act.put, List.setIfInBounds_toArray, List.set_cons_zero, List.set_cons_succ])
              obtain ⟨U2, HU2⟩ : ∃ U, Hid (U1.alloc (.cells (sals (noS n)).toArray 9) = U) := ⟨_, rfl⟩
              have hb2 : Below U1.heap.size U1 U2 := by rw [← HU2.out]; exact (Below.refl _ _).alloc (Nat.le_refl _) _
              have KM2 := Lib.hid (KM1.out.below hb2 KM1.out.lt)
              have HM2 : Hid (Below w.heap.size w U2) := HM1.out.trans (hb2.mono HM1.out.size)
              have KB2 := Lib.hid (KB1.out.below hb2 KB1.out.lt)
              have KS2 : Hid (Blk U2 U1.heap.size 9 (sals (noS n)).toArray) := by rw [← HU2.out]; exact Blk.new U1 _ _
              have hzw2 : w.heap.size < U1.heap.size := KM1.out.lt
              have hzo2 : U0.heap.size < U1.heap.size := KB1.out.lt
              clear hb2
              rw [HU2.out]
              refine wpAnyH_take (i := 4) (v := ?zv20008) rfl (by kernel_rfl) (by kernel_rfl) (by kernel_rfl) (fun _ _ _ h => h) (Or.inl ⟨by kernel_rfl, ?zy20008⟩) (by assumption) ?zr20008
              case zy20008 => (intro w hSw; (try dsimp only at hSw); go_simp; try with_reducible rfl)
              change wpAnyH _ _ _ _ _ _ _ (Act.put _ (some 6) _) _
              simp only [Act.put, List.setIfInBounds_toArray, List.set_cons_zero, List.set_cons_succ]
              refine wpAnyH_take (i := 5) (v := ?zv20009) rfl (by kernel_rfl) (by kernel_rfl) (by kernel_rfl) (fun _ _ _ h => h) (Or.inl ⟨by kernel_rfl, ?zy20009⟩) (by assumption) ?zr20009
              case zy20009 => (intro w hSw; (try dsimp only at hSw); go_simp; try with_reducible rfl)
              change wpAnyH _ _ _ _ _ _ _ (Act.put _ (some 7) _) _
              simp only [Act.put, List.setIfInBounds_toArray, List.set_cons_zero, List.set_cons_succ]
              refine wpAnyH_done (by kernel_rfl) ?_ _
              (try go_wp2_with fail)
              go_meet
              exact ⟨U1.heap.size, U0.heap.size, rfl, rfl, ⟨KS2.out, KB2.out, KM2.out, HM2.out, by omega, by omega, by omega⟩⟩
        case rest =>
          obtain ⟨g1, g2, rfl, rfl, HX2⟩ := hcut
          clear hmkS hmkB
          obtain ⟨j0, j1⟩ := jr_cells HX2.out.kj
          go_wp2_with fail
          refine (CQ2.out _ HX2.out.below).mono ?_
          rintro e w4 ⟨c, rfl, hch4, hcB, hb4⟩
          have HX4 := Lib.hid (HX2.out.then_ hb4)
          have hc1 : g1 < c := by have := HX2.out.k1.lt; omega
          have hc2 : g2 < c := by have := HX2.out.k2.lt; omega
          have hcw : w.heap.size < c := by have := HX2.out.b1; omega
          have hclt : c < w4.heap.size := hch4.lt
          obtain ⟨cs, cr, hch⟩ := hch4
          obtain ⟨BF, HBF⟩ : ∃ x, Hid ((rs.map recV).toArray = x) := ⟨_, rfl⟩
          rw [HBF.out] at hch
          have hcl := fun ats ty => run_close_open (P := Try.prog) (w := w4) ats ty hch
          have HC5 : Hid (ChanAt (w4.setChan c 20 BF true cs cr false) c ((rs.drop 0).map recV) true) := ⟨cs, cr, by rw [List.drop_zero, HBF.out]; exact heap_setChan _ _ _ _ _ _ _ _ hclt⟩
          have HX5 : Hid (Bl w A nr cap s g1 g2 (blkS (rs.take 0) n) (blkH (rs.take 0) n) (w4.setChan c 20 BF true cs cr false)) := HX4.out.chan hcw (by omega) (by omega) _ _ _ _ _ _
          clear hb4 hch j0 j1 hcB
          go_wp2
          clear hcl
          go_loopg [9] nr (fun gg _ wr => ∃ k : Nat, k ≤ nr ∧ nr - k ≤ gg ∧ Hid (ChanAt wr c ((rs.drop k).map recV) true) ∧ Hid (Bl w A nr cap s g1 g2 (blkS (rs.take k) n) (blkH (rs.take k) n) wr))
          case atStart => exact ⟨0, Nat.zero_le _, by omega, HC5, HX5⟩
          case round =>
            obtain ⟨k, hk, hgg, HC, HX⟩ := hrel
            have hcwr : c < wr.heap.size := HC.out.lt
            obtain ⟨cs', cr', hch⟩ := HC.out
            by_cases hkn : k < nr
            · have hkz : k < rs.length := by rw [HN.out]; exact hkn
              have hdrop : rs.drop k = rth rs k :: rs.drop (k + 1) := by rw [List.drop_eq_getElem_cons hkz, rth_eq rs k hkz]
              have HT := Lib.hid (take_rth rs k hkz)
              have hrec := (recB_iff _).1 (HALL.out k hkz)
              rw [hdrop, List.map_cons] at hch
              obtain ⟨ri, HRI⟩ : ∃ x, Hid ((rth rs k).i = x) := ⟨_, rfl⟩
              obtain ⟨rt, HRT⟩ : ∃ x, Hid ((rth rs k).t = x) := ⟨_, rfl⟩
              have HONE : Hid (rth rs k = ⟨ri, rt⟩) := by
                show _ = _
                rw [← HRI.out, ← HRT.out]
              rw [HONE.out] at hch hrec
              have hri0 : 0 ≤ ri := hrec.1
              have hri1 : ri < 16 := hrec.2.1
              obtain ⟨TL, HTL⟩ : ∃ x, Hid ((rs.drop (k + 1)).map recV = x) := ⟨_, rfl⟩
              rw [HTL.out] at hch
              have HCH : Hid (wr.heap[c]? = some (.chan 20 (.agg #[.int .i64 ri, .string rt] :: TL : List Value).toArray true cs' cr' false)) := hch
              have HEX : Hid ((.agg #[.int .i64 ri, .string rt] :: TL : List Value).toArray.extract 1 (.agg #[.int .i64 ri, .string rt] :: TL : List Value).toArray.size = TL.toArray) := by
                show _ = _
                simp
              obtain ⟨TA, HTA⟩ : ∃ x, Hid (TL.toArray = x) := ⟨_, rfl⟩
              have HCN : Hid (ChanAt (wr.setChan c 20 TA true cs' (cr' + 1) false) c ((rs.drop (k + 1)).map recV) true) := ⟨cs', cr' + 1, by rw [HTL.out, HTA.out]; exact heap_setChan _ _ _ _ _ _ _ _ hcwr⟩
              have HXN : Hid (Bl w A nr cap s g1 g2 (blkS (rs.take k) n) (blkH (rs.take k) n) (wr.setChan c 20 TA true cs' (cr' + 1) false)) := HX.out.chan hcw (by omega) (by omega) _ _ _ _ _ _
              clear hch hdrop hkz hrec
              go_upto_region 7 with fail
              refine wp_region_go ?_
              change OpsGo _ _ _ [0, 1] _ _
              refine opsGo_recv true (z := .agg #[.int .i64 0, .string ByteArray.empty]) rfl rfl (by simp [go_sem, rcase]; rfl) HCH.out (by simp) ?_
              rw [HEX.out, HTA.out]
              rw [show got true ((.agg #[.int .i64 ri, .string rt] :: TL : List Value).toArray.getD 0 undef) true = .tuple #[.agg #[.int .i64 ri, .string rt], .bool true] from rfl]
              change OpsGo _ _ _ _ (Act.put _ (some 32) _) _
              simp only [Act.put, List.setIfInBounds_toArray, List.set_cons_zero, List.set_cons_succ]
              refine opsGo_op rfl rfl (fun K hK => ?_); go_simp; refine hK _ _ ?_; clear hK K
              refine opsGo_nil ?_
              obtain ⟨V, HV⟩ : ∃ x, Hid (wr.setChan c 20 TA true cs' (cr' + 1) false = x) := ⟨_, rfl⟩
              rw [HV.out] at HCN HXN
              rw [HV.out]
              obtain ⟨V2, HV2⟩ : ∃ x, Hid (V.alloc (.cells #[.int .i64 ri, .string rt] 38) = x) := ⟨_, rfl⟩
              have hbv : Below V.heap.size V V2 := by rw [← HV2.out]; exact (Below.refl _ _).alloc (Nat.le_refl _) _
              have KI : Hid (Blk V2 V.heap.size 38 #[.int .i64 ri, .string rt]) := by rw [← HV2.out]; exact Blk.new V _ _
              have HC2 := Lib.hid (HCN.out.below hbv HCN.out.lt)
              have HX2' := Lib.hid (HXN.out.then_ hbv)
              have hn1 : g1 ≠ V.heap.size := by have := HXN.out.k1.lt; omega
              have hn2 : g2 ≠ V.heap.size := by have := HXN.out.k2.lt; omega
              have hn3 : g1 ≠ c := by omega
              have hn4 : g2 ≠ c := by omega
              clear hbv
              by_cases hin : ri < (n : Int)
              · obtain ⟨ix, hix0⟩ : ∃ v : Nat, ri = (v : Int) := ⟨ri.toNat, by omega⟩
                subst hix0
                have hix : ix < n := by omega
                have hixi : (ix : Int) < (n : Int) := by omega
                have hix00 : (0 : Int) ≤ (ix : Int) := by omega
                go_upto_region 10 with fail
                rw [HV2.out]
                obtain ⟨i0, i1⟩ := jr_cells KI.out
                obtain ⟨a0, a1, a2, a3⟩ := HX2'.out.cells ix (by rw [blkS_length]; exact hix) (by rw [blkH_length]; exact hix)
                (try go_wp2_with fail)
                refine wp_region_held_drew (S := (fun w' => w'.cell? ⟨V.heap.size, 0, none⟩ = some (.int .i64 (ix : Int)) ∧ w'.cell? ⟨V.heap.size, 1, none⟩ = some (.string rt))) (by kernel_rfl) (jr_cells KI.out) (fun hHeld => ?_)
                obtain ⟨U0, HU0⟩ : ∃ U, Hid (V2.drew = U) := ⟨_, rfl⟩
                have HX0 := Lib.hid HX2'.out.drew
                have KI0 : Hid (Blk V2.drew V.heap.size 38 #[.int .i64 (ix : Int), .string rt]) := KI.out
                have HC0 : Hid (ChanAt V2.drew c ((rs.drop (k + 1)).map recV) true) := HC2.out.drew
                rw [HU0.out] at HX0 KI0 HC0 hHeld ⊢
                clear a0 a1 a2 a3
                obtain ⟨a0, a1, a2, a3⟩ := HX0.out.cells ix (by rw [blkS_length]; exact hix) (by rw [blkH_length]; exact hix)
                refine wpAnyH_take (i := 0) (v := ?zv20010) rfl (by kernel_rfl) (by kernel_rfl) (by kernel_rfl) (fun _ _ _ h => h) (Or.inl ⟨by kernel_rfl, ?zy20010⟩) (by assumption) ?zr20010
                case zy20010 => (intro w hSw; (try dsimp only at hSw); go_simp; try with_reducible rfl)
                change wpAnyH _ _ _ _ _ _ _ (Act.put _ (some 39) _) _
                simp only [Act.put, List.setIfInBounds_toArray, List.set_cons_zero, List.set_cons_succ]
                refine wpAnyH_take (i := 1) (v := ?zv20011) rfl (by kernel_rfl) (by kernel_rfl) (by kernel_rfl) (fun _ _ _ h => h) (Or.inl ⟨by kernel_rfl, ?zy20011⟩) (by assumption) ?zr20011
                case zy20011 => (intro w hSw; (try dsimp only at hSw); go_simp; try with_reducible rfl)
                change wpAnyH _ _ _ _ _ _ _ (Act.put _ (some 40) _) _
                simp only [Act.put, List.setIfInBounds_toArray, List.set_cons_zero, List.set_cons_succ]
                refine wpAnyH_take (i := 3) (v := ?zv20012) rfl (by kernel_rfl) (by kernel_rfl) (by kernel_rfl) (fun _ _ _ h => h) (Or.inl ⟨by kernel_rfl, ?zy20012⟩) (by assumption) ?zr20012
                case zy20012 => (intro w hSw; (try dsimp only at hSw); go_simp; try with_reducible rfl)
                change wpAnyH _ _ _ _ _ _ _ (Act.put _ (some 42) _) _
                simp only [Act.put, List.setIfInBounds_toArray, List.set_cons_zero, List.set_cons_succ]
                refine wpAnyH_take (i := 4) (v := ?zv20013) rfl (by kernel_rfl) (by kernel_rfl) (by kernel_rfl) (fun _ _ _ h => h) (Or.inl ⟨by kernel_rfl, ?zy20013⟩) (by assumption) ?zr20013
                case zy20013 => (intro w hSw; (try dsimp only at hSw); go_simp; try with_reducible rfl)
                change wpAnyH _ _ _ _ _ _ _ (Act.put _ (some 43) _) _
                simp only [Act.put, List.setIfInBounds_toArray, List.set_cons_zero, List.set_cons_succ]
                refine wpAnyH_take (i := 6) (v := ?zv20014) rfl (by kernel_rfl) (by kernel_rfl) (by kernel_rfl) (fun _ _ _ h => h) (Or.inl ⟨by kernel_rfl, ?zy20014⟩) (by assumption) ?zr20014
                case zy20014 => (intro w hSw; (try dsimp only at hSw); go_simp; try with_reducible rfl)
                change wpAnyH _ _ _ _ _ _ _ (Act.put _ (some 45) _) _
                simp only [Act.put, List.setIfInBounds_toArray, List.set_cons_zero, List.set_cons_succ]
                refine wpAnyH_take (i := 2) (v := ?zv20015) rfl (by kernel_rfl) (by kernel_rfl) (by kernel_rfl) (fun _ _ _ h => h) (Or.inl ⟨by kernel_rfl, ?zy20015⟩) (by assumption) ?zr20015
                case zy20015 => (intro w hSw; (try dsimp only at hSw); go_simp; try with_reducible rfl)
                change wpAnyH _ _ _ _ _ _ _ (Act.put _ (some 41) _) _
                simp only [Act.put, List.setIfInBounds_toArray, List.set_cons_zero, List.set_cons_succ]
                refine wpAnyH_take (i := 5) (v := ?zv20016) rfl (by kernel_rfl) (by kernel_rfl) (by kernel_rfl) (fun _ _ _ h => h) (Or.inl ⟨by kernel_rfl, ?zy20016⟩) (by assumption) ?zr20016
                case zy20016 => (intro w hSw; (try dsimp only at hSw); go_simp; try with_reducible rfl)
                change wpAnyH _ _ _ _ _ _ _ (Act.put _ (some 44) _) _
                simp only [Act.put, List.setIfInBounds_toArray, List.set_cons_zero, List.set_cons_succ]
                refine wpAnyH_take (i := 7) (v := ?zv20017) rfl (by kernel_rfl) (by kernel_rfl) (by kernel_rfl) (fun _ _ _ h => h) (Or.inl ⟨by kernel_rfl, ?zy20017⟩) (by assumption) ?zr20017
                case zy20017 => (intro w hSw; (try dsimp only at hSw); go_simp; try with_reducible rfl)
                change wpAnyH _ _ _ _ _ _ _ (Act.put _ (some 46) _) _
                simp only [Act.put, List.setIfInBounds_toArray, List.set_cons_zero, List.set_cons_succ]
                refine wpAnyH_take (i := 8) (v := ?zv20018) rfl (by kernel_rfl) (by kernel_rfl) (by kernel_rfl) (fun _ _ _ h => h) (Or.inl ⟨by kernel_rfl, ?zy20018⟩) (by assumption) ?zr20018
                case zy20018 => (intro w hSw; (try dsimp only at hSw); go_simp; try with_reducible rfl)
                change wpAnyH _ _ _ _ _ _ _ (Act.put _ (some 47) _) _
                simp only [Act.put, List.setIfInBounds_toArray, List.set_cons_zero, List.set_cons_succ]
                refine wpAnyH_ready (rs := [9]) (by kernel_rfl) (by simp) (AllReadyH.cons rfl (fun K hK => ?zo20019_0) AllReadyH.nil)
                case zo20019_0 =>
                  go_simp
                  obtain ⟨U1, HU1⟩ : ∃ Q0, Hid (U0.setCell ⟨g1, ix, none⟩ (.string rt) = Q0) := ⟨_, rfl⟩
                  have HX1 := Lib.hid (HX0.out.putS ix rt)
                  rw [HU1.out] at HX1
                  have KI1 : Hid (Blk U1 V.heap.size 38 #[.int .i64 (ix : Int), .string rt]) := by rw [← HU1.out]; exact KI0.out.setOther (p := ⟨g1, ix, none⟩) hn1 _
                  have HC1 : Hid (ChanAt U1 c ((rs.drop (k + 1)).map recV) true) := by rw [← HU1.out]; exact HC0.out.setOther ⟨g1, ix, none⟩ hn3 _
                  rw [HU1.out]
                  refine hK.out _ _ (jr_cells KI1.out) (fun hHeld => ?_)
                  clear hK K
                  (try simp only [Act.put])
                  clear a0 a1 a2 a3
                  obtain ⟨a0, a1, a2, a3⟩ := HX1.out.cells ix (by (try simp only [List.length_set]); rw [blkS_length]; exact hix) (by (try simp only [List.length_set]); rw [blkH_length]; exact hix)
                  refine wpAnyH_take (i := 10) (v := ?zv20020) rfl (by kernel_rfl) (by kernel_rfl) (by kernel_rfl) (fun _ _ _ h => h) (Or.inl ⟨by kernel_rfl, ?zy20020⟩) (by assumption) ?zr20020
                  case zy20020 => (intro w hSw; (try dsimp only at hSw); go_simp; try with_reducible rfl)
                  change wpAnyH _ _ _ _ _ _ _ (Act.put _ (some 48) _) _
                  simp only [Act.put, List.setIfInBounds_toArray, List.set_cons_zero, List.set_cons_succ]
                  refine wpAnyH_ready (rs := [11]) (by kernel_rfl) (by simp) (AllReadyH.cons rfl (fun K hK => ?zo20021_0) AllReadyH.nil)
                  case zo20021_0 =>
                    go_simp
                    obtain ⟨U2, HU2⟩ : ∃ Q0, Hid (U1.setCell ⟨g2, ix, none⟩ (.bool true) = Q0) := ⟨_, rfl⟩
                    have HX2 := Lib.hid (HX1.out.putB ix true)
                    rw [HU2.out] at HX2
                    have KI2 : Hid (Blk U2 V.heap.size 38 #[.int .i64 (ix : Int), .string rt]) := by rw [← HU2.out]; exact KI1.out.setOther (p := ⟨g2, ix, none⟩) hn2 _
                    have HC2 : Hid (ChanAt U2 c ((rs.drop (k + 1)).map recV) true) := by rw [← HU2.out]; exact HC1.out.setOther ⟨g2, ix, none⟩ hn4 _
                    rw [HU2.out]
                    refine hK.out _ _ (jr_cells KI2.out) (fun hHeld => ?_)
                    clear hK K
                    (try simp only [Act.put])
                    clear a0 a1 a2 a3
                    obtain ⟨a0, a1, a2, a3⟩ := HX2.out.cells ix (by (try simp only [List.length_set]); rw [blkS_length]; exact hix) (by (try simp only [List.length_set]); rw [blkH_length]; exact hix)
                    refine wpAnyH_done (by kernel_rfl) ?_ _
                    go_wp2
                    go_roundg (nr - (k + 1))
                    case measure => omega
                    case rel =>
                      refine ⟨k + 1, by omega, by omega, HC2, ?_⟩
                      have h := HX2.out
                      show Hid (Bl w A nr cap s g1 g2 (blkS (rs.take (k + 1)) n) (blkH (rs.take (k + 1)) n) _)
                      rw [HT.out, HONE.out, blkS_snoc, blkH_snoc]
                      exact h
              · go_upto_region 9 with fail
                rw [HV2.out]
                obtain ⟨i0, i1⟩ := jr_cells KI.out
                have HOUT : Hid (blkS (rs.take (k + 1)) n = blkS (rs.take k) n ∧ blkH (rs.take (k + 1)) n = blkH (rs.take k) n) := by
                  show _ ∧ _
                  rw [HT.out, HONE.out, blkS_snoc, blkH_snoc]
                  exact ⟨List.set_eq_of_length_le (by rw [blkS_length]; show n ≤ ri.toNat; omega), List.set_eq_of_length_le (by rw [blkH_length]; show n ≤ ri.toNat; omega)⟩
                go_wp2
                go_roundg (nr - (k + 1))
                case measure => omega
                case rel =>
                  refine ⟨k + 1, by omega, by omega, HC2, ?_⟩
                  rw [HOUT.out.1, HOUT.out.2]
                  exact HX2'
            · have hkk : k = nr := by omega
              subst hkk
              rw [List.drop_eq_nil_of_le (by rw [HN.out]; exact Nat.le_refl _)] at hch
              have HCH : Hid (wr.heap[c]? = some (.chan 20 #[] true cs' cr' false)) := hch
              clear hch
              go_upto_region 7 with fail
              refine wp_region_go ?_
              change OpsGo _ _ _ [0, 1] _ _
              refine opsGo_shut true (z := .agg #[.int .i64 0, .string ByteArray.empty]) rfl rfl (by simp [go_sem, rcase]; rfl) HCH.out ?_
              rw [show got true (Value.agg #[.int .i64 0, .string ByteArray.empty]) false = .tuple #[.agg #[.int .i64 0, .string ByteArray.empty], .bool false] from rfl]
              change OpsGo _ _ _ _ (Act.put _ (some 32) _) _
              simp only [Act.put, List.setIfInBounds_toArray, List.set_cons_zero, List.set_cons_succ]
              refine opsGo_op rfl rfl (fun K hK => ?_); go_simp; refine hK _ _ ?_; clear hK K
              refine opsGo_nil ?_
              have HE : Hid (rs.take k = rs) := List.take_of_length_le (by rw [HN.out]; exact Nat.le_refl _)
              have hx := HX.out
              rw [HE.out] at hx
              have HXE := Lib.hid hx
              clear hx
              have h1 := owns_row (base := w.heap.size) HXE.out.k1 (by have := HXE.out.b1; omega) (by rw [blkS_length]; unfold maxLen; omega)
              have h2 := ownb_row (base := w.heap.size) HXE.out.k2 (by have := HXE.out.b2; omega) (by rw [blkH_length]; unfold maxLen; omega)
              rw [blkS_length] at h1
              rw [blkH_length] at h2
              have HO1 := Lib.hid h1
              have HO2 := Lib.hid h2
              clear h1 h2
              go_wp2
              go_ret2
              exact ⟨g1, n, g2, n, by rw [blkS_length, blkH_length]; rfl, HO1.out, HO2.out, HXE.out.below⟩
      · have hl1i : 16 < len := by omega
        have FIN2 := Lib.hid (FIN.out (by unfold blkOk; rw [HO.out, decide_eq_false (fun h => hl1 h.2)]; rfl))
        clear FIN CQ2 hl1
        go_enter Try.func24, Try.ntmps24
        go_wp2_with fail
        rw [HW.out]
        refine (CV.out _ HB.out).mono ?_
        rintro e w1 ⟨rfl, hb1⟩
        have KJ1 := Lib.hid (KJ.out.below hb1 KJ.out.lt)
        have HB1 : Hid (Below w.heap.size w w1) := HB.out.trans (hb1.mono HB.out.size)
        clear hb1
        go_wp2
        go_ret2
        exact FIN2.out _ HB1.out HB1.out.size
    · have hl0i : len < 0 := by omega
      have FIN2 := Lib.hid (FIN.out (by unfold blkOk; rw [HO.out, decide_eq_false (fun h => hl0 h.1)]; rfl))
      clear FIN CQ2 hl0
      go_enter Try.func24, Try.ntmps24
      go_wp2_with fail
      rw [HW.out]
      refine (CV.out _ HB.out).mono ?_
      rintro e w1 ⟨rfl, hb1⟩
      have KJ1 := Lib.hid (KJ.out.below hb1 KJ.out.lt)
      have HB1 : Hid (Below w.heap.size w w1) := HB.out.trans (hb1.mono HB.out.size)
      clear hb1
      go_wp2
      go_ret2
      exact FIN2.out _ HB1.out HB1.out.size

end Go.Proofs.Ytmddfjfflgfdlaa
