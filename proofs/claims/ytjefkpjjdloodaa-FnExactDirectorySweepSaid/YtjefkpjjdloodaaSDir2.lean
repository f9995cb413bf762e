/- Contracts of the model's l41Fresh, l41Sweep, DirectorySweep, DirectorySample: they answer as the data say, in memory of the call's own. Conditions: the nodes lie in memory; l41Fresh and l41Sweep are told that the directory is valid. -/
import Derived.Test.YtjefkpjjdloodaaSDir
import Derived.Test.YtjefkpjjdloodaaExactRow
import Derived.Deep.DeepCutAuto
import Derived.Deep.Draws
namespace Go.Proofs.Ytjefkpjjdloodaa
open Go.RowKit
set_option linter.unusedVariables false

set_option maxHeartbeats 2000000 in
set_option maxRecDepth 100000 in
theorem sfresh_any (x : LD) (now : Int) (w : World) (h0 : 0 ≤ x.t) (h1 : x.t ≤ 999) :
    Calls Try.prog 33 #[lisV x, .int .i64 now] w fun e w' => e = .returned (.bool (freshB now x)) ∧ Below w.heap.size w w' := by
  obtain ⟨vn, vt⟩ := x
  simp only at h0 h1
  unfold lisV
  dsimp only
  obtain ⟨W, HW⟩ : ∃ W, Hid (w.alloc (.cells #[.int .i64 vn, .int .i64 vt] 41) = W) := ⟨_, rfl⟩
  have KA : Hid (Blk W w.heap.size 41 #[.int .i64 vn, .int .i64 vt]) := by rw [← HW.out]; exact Blk.new w _ _
  have HB : Hid (Below w.heap.size w W) := by rw [← HW.out]; exact (Below.refl _ w).alloc (Nat.le_refl _) _
  obtain ⟨k0, k1⟩ := lis2 KA.out
  have hw : IntKind.i64.wrap (vt + 10) = vt + 10 := IntWalk.i64_in _ (by omega)
  have HF : Hid (freshB now ⟨vn, vt⟩ = decide (now ≤ vt + 10)) := rfl
  rw [HF.out]
  go_enter Try.func33, Try.ntmps33
  go_upto_region 1 with fail
  rw [HW.out]
  go_wp2
  go_ret
  exact ⟨rfl, HB.out⟩

/-- An append to a row that lies somewhere leaves one that starts a block. -/
theorem AppendedR.at0 {α : Type} {K : Kind α} {W w' : World} {base n c : Nat} {a : Addr} {xs : List α} {v : Value} (h : AppendedR K W base (some a) n c xs v w') : ∃ g c', v = .slice (some ⟨g, 0, none⟩) xs.length c' ∧ OwnRow K w' base (some ⟨g, 0, none⟩) c' xs := by
  obtain ⟨A1, c1, e1, ho⟩ := h.own
  obtain ⟨A2, c2, e2⟩ := h.some_ (by simp)
  rw [e1] at e2
  injection e2 with e3 _ _
  rcases ho.nowhere with e | ⟨g, e⟩
  · rw [e] at e3; cases e3
  · subst e; exact ⟨g, c1, e1, ho⟩
/-- What a function hands back that makes a list of nodes, in a block. -/
def RetLisG (w : World) (xs : List LD) (e : Ending) (w' : World) : Prop :=
  ∃ g c, e = .returned (.slice (some ⟨g, 0, none⟩) xs.length c) ∧ OwnRow LK w' w.heap.size (some ⟨g, 0, none⟩) c xs ∧ Below w.heap.size w w'
/-- What a function hands back that makes a list of nodes. -/
abbrev RetLis (w : World) (xs : List LD) (e : Ending) (w' : World) : Prop := RetRow LK w xs e w'

set_option maxHeartbeats 4000000 in
set_option maxRecDepth 100000 in
theorem ssweep_any (A : Option Addr) (cap : Nat) (xs : List LD) (now : Int) (w : World) (hA : LisAt w w.heap.size A cap xs) (hd : DirP xs) {n : Nat} (hn : xs.length = n) :
    Calls Try.prog 28 #[.slice A n cap, .int .i64 now] w (RetLisG w (sweepL now xs)) := by
  obtain ⟨i0, zz, hi0, hz0, hz1, hz2, hz3⟩ := lis_app_info
  have HI0 := Lib.hid (And.intro hi0 (And.intro hz0 (And.intro hz1 (And.intro hz2 hz3))))
  clear hi0 hz0 hz1 hz2 hz3
  have HA := Lib.hid hA
  have HB0 : Hid (Below w.heap.size w w) := Below.refl _ _
  have hcap := hA.most
  have hle := hA.le
  unfold maxLen at hcap
  clear hA
  have HN := Lib.hid hn
  have HSH : Hid (n ≤ 8) := by rw [← HN.out]; exact hd.len
  have HOK := Lib.hid hd.ok
  rw [hn] at hle
  clear hn hd
  go_enter Try.func28, Try.ntmps28
  obtain ⟨Wc, HWc⟩ : ∃ Q0, Hid (w.alloc (.cells #[] 41) = Q0) := ⟨_, rfl⟩
  have HBc : Hid (Below w.heap.size w Wc) := by rw [← HWc.out]; exact HB0.out.alloc HB0.out.size _
  have HOc : Hid (OwnRow LK Wc w.heap.size (some ⟨w.heap.size, 0, none⟩) 0 []) := by rw [← HWc.out]; exact OwnRow.new LK w
  go_upto_region 2 with fail
  rw [HWc.out]
  go_wp2
  go_loopw [5, 6] (fun s i wr => ∃ (k m x X : Nat), k ≤ n ∧ m ≤ k ∧ s = .slice (some ⟨X, 0, none⟩) m x ∧ i = .int .i64 (k : Int) ∧ Hid (Below w.heap.size w wr) ∧ Hid (OwnRow LK wr w.heap.size (some ⟨X, 0, none⟩) x ((xs.take k).filter (freshB now))) ∧ Hid (((xs.take k).filter (freshB now)).length = m)) (fun _ i _ => n - (intOf i).toNat)
  case atStart => exact ⟨0, 0, 0, _, Nat.zero_le _, Nat.le_refl _, rfl, rfl, HBc, HOc, rfl⟩
  case round =>
    obtain ⟨k, m, x, X, hk, hm, rfl, rfl, HBr, HO, HM⟩ := hrel
    by_cases hlt : k < n
    · have hkz : k < xs.length := by rw [HN.out]; exact hlt
      have hj := HA.out.belowS HBr.out
      obtain ⟨b, o, rfl⟩ := hj.row.some_ (by omega)
      obtain ⟨c0, c1⟩ := lis_cells hj.row k hkz
      have hok := (HOK.out _ (lth_mem xs k hkz)).2
      obtain ⟨xn, HRI⟩ : ∃ x, Hid ((lth xs k).n = x) := ⟨_, rfl⟩
      obtain ⟨xt, HRT⟩ : ∃ x, Hid ((lth xs k).t = x) := ⟨_, rfl⟩
      have HONE : Hid (lth xs k = ⟨xn, xt⟩) := by
        show _ = _
        rw [← HRI.out, ← HRT.out]
      have HFS := Lib.hid (fcount_step (freshB now) xs k hkz)
      rw [HRI.out] at c0
      rw [HRT.out] at c1 hok
      have CF := Lib.hid (sfresh_any ⟨xn, xt⟩ now wr hok.1 hok.2)
      have hk0 : (0 : Int) ≤ (k : Int) := by omega
      have hki : (k : Int) < (n : Int) := by omega
      have hbz : w.heap.size ≤ wr.heap.size := HBr.out.size
      have hkc : k ≤ 8 := by have := HSH.out; omega
      clear hkz hj hok
      rw [HONE.out] at HFS
      cases he : freshB now ⟨xn, xt⟩ with
      | false =>
        rw [he] at CF HFS
        have HS2 : Hid ((xs.take (k + 1)).filter (freshB now) = (xs.take k).filter (freshB now)) := by
          show _ = _
          rw [HFS.out]
          exact List.append_nil _
        clear he
        go_wp2_with fail
        refine CF.out.mono ?_
        rintro e w1 ⟨rfl, hb1⟩
        have HB1 : Hid (Below w.heap.size w w1) := HBr.out.trans (hb1.mono hbz)
        have HO1 := Lib.hid (HO.out.below hb1)
        clear hb1
        go_wp2
        go_roundw
        case rel => exact ⟨k + 1, m, x, X, by omega, by omega, rfl, by go_num, HB1.out, by show OwnRow _ _ _ _ _ _; rw [HS2.out]; exact HO1.out, by show _ = _; rw [HS2.out]; exact HM.out⟩
        case measure => simp [intOf]; omega
      | true =>
        rw [he] at CF HFS
        have HS2 : Hid ((xs.take (k + 1)).filter (freshB now) = (xs.take k).filter (freshB now) ++ [(⟨xn, xt⟩ : LD)]) := by
          show _ = _
          rw [HFS.out]; rfl
        clear he
        go_wp2_with fail
        refine CF.out.mono ?_
        rintro e w1 ⟨rfl, hb1⟩
        have HB1 : Hid (Below w.heap.size w w1) := HBr.out.trans (hb1.mono hbz)
        have HO1 := Lib.hid (HO.out.below hb1)
        have hbz1 : w.heap.size ≤ w1.heap.size := HB1.out.size
        have d0 := hb1.cell (p := ⟨b, o + k * 2, none⟩) ?hb
        case hb => exact (HA.out.belowS HBr.out).row.lt (by rw [HN.out]; omega) |>.1
        have d1 := hb1.cell (p := ⟨b, o + k * 2 + 1, none⟩) ?hb
        case hb => exact (HA.out.belowS HBr.out).row.lt (by rw [HN.out]; omega) |>.1
        rw [c0] at d0
        rw [c1] at d1
        clear hb1 c0 c1
        go_wp2_with (at_builtin; refine wpList_app_row (K := LK) Try.underlying25 HI0.out.1 HI0.out.2.1 HI0.out.2.2.1 HI0.out.2.2.2.1 HI0.out.2.2.2.2 (by decide) rfl (.tmp 20) (.tmp 25) rfl _ w.heap.size (some ⟨X, 0, none⟩) x ((xs.take k).filter (freshB now)) (by rw [HM.out]; rfl) _ _ [(⟨xn, xt⟩ : LD)] rfl (HO1.out.alloc _) (one_newR LK _ ⟨xn, xt⟩ _) (by rw [HM.out]; show m + 1 ≤ 1000000; omega) (by simp; omega) (fun e => by cases e) ?_; intro v w7 hA; obtain ⟨Y, y, rfl, ho7⟩ := hA.at0; have HB7 : Hid (Below w.heap.size w w7) := ((HB1.out.alloc hbz1 _).trans hA.below); have HO7 : Hid (OwnRow LK w7 w.heap.size (some ⟨Y, 0, none⟩) y ((xs.take (k + 1)).filter (freshB now))) := (by rw [HS2.out]; exact ho7); have HL7 : Hid (((xs.take k).filter (freshB now) ++ [(⟨xn, xt⟩ : LD)]).length = m + 1) := (by show _ = _; rw [List.length_append, HM.out]; rfl); have HL8 : Hid (((xs.take (k + 1)).filter (freshB now)).length = m + 1) := (by rw [HS2.out]; exact HL7.out); rw [HL7.out]; clear hA ho7)
        go_roundw
        case rel => exact ⟨k + 1, m + 1, y, Y, by omega, by omega, rfl, by go_num, HB7, HO7, HL8⟩
        case measure => simp [intOf]; omega
    · have hkn : k = n := by omega
      subst hkn
      have HTK : Hid ((xs.take k).filter (freshB now) = sweepL now xs) := by
        show _ = _
        rw [← HN.out, List.take_length]; rfl
      rw [HTK.out] at HO HM
      go_wp2
      go_ret
      exact ⟨X, x, by rw [HM.out]; rfl, HO.out, HBr.out⟩

set_option maxHeartbeats 4000000 in
set_option maxRecDepth 100000 in
theorem sdirSweep_any (A : Option Addr) (cap : Nat) (xs : List LD) (now : Int) (w : World) (hA : LisAt w w.heap.size A cap xs) {n : Nat} (hn : xs.length = n) :
    Calls Try.prog 16 #[.slice A n cap, .int .i64 now] w (RetLis w (sweepR xs now)) := by
  have HA := Lib.hid hA
  have HN := Lib.hid hn
  have CV := Lib.hid (sdirValid_any A cap xs w hA hn)
  have C2 := Lib.hid (fun U => l6in_any now 0 999 U)
  have e2 : (decide (0 ≤ now) && decide (now ≤ 999)) = tOk now := rfl
  rw [e2] at C2
  clear hA hn e2
  go_enter Try.func16, Try.ntmps16
  cases hv : dirB xs with
  | false =>
    rw [hv] at CV
    have HR : Hid (sweepR xs now = []) := sweepR_no (by rw [hv]; rfl)
    clear hv
    go_wp2_with fail
    refine CV.out.mono ?_
    rintro e w1 ⟨rfl, q, rfl⟩
    have HB1 : Hid (Below w.heap.size w (w.drewN q)) := below_drewN (Below.refl _ _) q
    have HBF : Hid (Below w.heap.size w ((w.drewN q).alloc (.cells #[] 41))) := HB1.out.alloc HB1.out.size _
    have HOF := Lib.hid (own_newL HB1.out)
    go_wp2
    go_ret
    exact ⟨_, _, by rw [HR.out]; rfl, by rw [HR.out]; exact HOF.out, HBF.out⟩
  | true =>
    rw [hv] at CV
    cases ht : tOk now with
    | false =>
      rw [ht] at C2
      have HR : Hid (sweepR xs now = []) := sweepR_no (by rw [ht, Bool.and_false])
      clear hv ht
      go_wp2_with fail
      refine CV.out.mono ?_
      rintro e w1 ⟨rfl, q, rfl⟩
      have HB1 : Hid (Below w.heap.size w (w.drewN q)) := below_drewN (Below.refl _ _) q
      go_wp2_with fail
      refine (C2.out _).mono ?_
      rintro e w1 ⟨rfl, rfl⟩
      have HBF : Hid (Below w.heap.size w ((w.drewN q).alloc (.cells #[] 41))) := HB1.out.alloc HB1.out.size _
      have HOF := Lib.hid (own_newL HB1.out)
      go_wp2
      go_ret
      exact ⟨_, _, by rw [HR.out]; rfl, by rw [HR.out]; exact HOF.out, HBF.out⟩
    | true =>
      rw [ht] at C2
      have HR : Hid (sweepR xs now = sweepL now xs) := sweepR_ok hv ht
      have HD := Lib.hid (dirP_of hv)
      clear hv ht
      go_wp2_with fail
      refine CV.out.mono ?_
      rintro e w1 ⟨rfl, q, rfl⟩
      have HB1 : Hid (Below w.heap.size w (w.drewN q)) := below_drewN (Below.refl _ _) q
      obtain ⟨U, HU⟩ : ∃ U, Hid (w.drewN q = U) := ⟨_, rfl⟩
      rw [HU.out] at HB1 ⊢
      have CS := Lib.hid (ssweep_any A cap xs now U (HA.out.belowS HB1.out) HD.out HN.out)
      go_wp2_with fail
      refine (C2.out _).mono ?_
      rintro e w1 ⟨rfl, rfl⟩
      have hu : w.heap.size ≤ w1.heap.size := HB1.out.size
      go_wp2_with fail
      refine CS.out.mono ?_
      rintro e w2 ⟨g, c, rfl, ho, hb⟩
      have HO := Lib.hid (ho.base_le hu)
      have HB2 : Hid (Below w.heap.size w w2) := HB1.out.trans (hb.mono hu)
      obtain ⟨m, HM⟩ : ∃ m, Hid ((sweepL now xs).length = m) := ⟨_, rfl⟩
      rw [HM.out]
      clear ho hb
      go_wp2
      go_ret
      exact ⟨_, c, by rw [HR.out, HM.out]; rfl, by rw [HR.out]; exact HO.out, HB2.out⟩

end Go.Proofs.Ytjefkpjjdloodaa
