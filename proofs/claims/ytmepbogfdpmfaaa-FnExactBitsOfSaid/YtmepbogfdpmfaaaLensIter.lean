/- Contract of the iterator that runsOfLengths hands back: it hands every run with these lengths to yield, in their order. Conditions: the lengths are valid runs, in memory; the loop's body keeps what lay before it. -/
import Derived.Test.YtmepbogfdpmfaaaRunsGood
namespace Go.Proofs.Ytmepbogfdpmfaaa
open Go.RowKit Go.Shelf
set_option linter.unusedVariables false

attribute [local go_sem] Oper.semAt_some

theorem par_int (k : Nat) : ((k : Int) % 2 == 1) = par k := by
  unfold par
  rw [Bool.eq_iff_iff]
  simp
  omega

set_option maxRecDepth 100000 in
set_option maxHeartbeats 4000000 in
theorem lens1_in (n : Nat) (hn : 1 ≤ n) (l Bs n₀ : Nat) (A : Option Addr) (cap : Nat) (zs : List Int) (hg : goodK zs zs.length = true) (J Jx : List Run → World → Prop)
    (hY : ∀ pre (x : Run) W, J pre W → pre.length < zs.length → YieldAt Fence.wide (n - 1) Try.prog l #[.bool x.set, .int .i64 (x.len : Int)] W fun e W' =>
      (e = .returned (.bool true) ∧ J (pre ++ [x]) W' ∧ Below n₀ W W') ∨ (e = .returned (.bool false) ∧ Jx (pre ++ [x]) W'))
    (W : World) (hBs : W.cell? ⟨Bs, 0, none⟩ = some (.slice A zs.length cap)) (hI : IntsAt W n₀ A zs) (h0 : J [] W) :
    CallsIn Fence.wide n Try.prog 39 #[.func (.yield l) #[] #[], .pointer (some ⟨Bs, 0, none⟩)] W fun e W' => (∃ v, e = .returned v) ∧
      ((∃ ys, ys.map Run.pair = pairsTo zs zs.length ∧ J ys W') ∨ (∃ pre, True ∧ Jx pre W')) := by
  have HI := Lib.hid hI
  have HG := Lib.hid hg
  have hl17 : zs.length ≤ 17 := by have := goodK_sum hg; omega
  obtain ⟨m, HM⟩ : ∃ m, Hid (zs.length = m) := ⟨_, rfl⟩
  rw [HM.out] at hBs hl17
  have HY := Lib.hid hY
  clear hI hY hg
  refine callsIn_of_wp Try.func39 rfl trivial ?_ rfl
  simp only [Try.ntmps39, List.size_toArray, List.length_cons, List.length_nil, Nat.reduceAdd, Nat.reduceSub, Array.replicate_succ, Array.replicate_zero, List.push_toArray, List.append_toArray, List.nil_append, List.cons_append]
  gi_wp2
  gi_loopw [7] (fun i wr => ∃ (k : Nat) (pre : List Run), k ≤ m ∧ i = .int .i64 k ∧ Hid (pre.map Run.pair = pairsTo zs k) ∧ Hid (J pre wr) ∧ Hid (Below n₀ W wr) ∧ Hid (pre.length = k))
    (fun i _ => m - (intOf i).toNat)
  case atStart => exact ⟨0, [], Nat.zero_le _, rfl, rfl, h0, Below.refl _ _, rfl⟩
  case round =>
    obtain ⟨k, pre, hk, rfl, HP, HJ, HB, HPL⟩ := hrel
    by_cases hlt : k < m
    · have hkz : k < zs.length := by rw [HM.out]; exact hlt
      obtain ⟨blk, o, rfl, hb, hc⟩ := (HI.out.below HB.out (Nat.le_refl _)) (by omega)
      have hck := hc k hkz
      obtain ⟨hz0, hz16⟩ := goodK_small HG.out k hkz
      obtain ⟨z, hz⟩ := Int.eq_ofNat_of_zero_le hz0
      rw [hz] at hck hz16
      have hz16' : z ≤ 16 := by omega
      have HN : Hid (pairsTo zs (k + 1) = pairsTo zs k ++ [(par k, z)]) := by show _ = _; rw [pairsTo, hz]; rfl
      have hki : (k : Int) < (m : Int) := by omega
      obtain ⟨fn, tmps, assign, body, hy, hR⟩ := HY.out pre ⟨((k : Int) % 2 == 1), z, hz16'⟩ wr HJ.out (by rw [HPL.out]; exact hkz)
      dsimp only at hy
      clear hc hkz hz hz0 hz16
      gi_wp2
      refine hR.mono ?_
      rintro e W3 (⟨rfl, hJ3, hk3⟩ | ⟨rfl, hJx3⟩)
      · have HJ3 := Lib.hid hJ3
        have HB3 := Lib.hid (HB.out.trans hk3)
        have HP3 : Hid ((pre ++ [(⟨((k : Int) % 2 == 1), z, hz16'⟩ : Run)]).map Run.pair = pairsTo zs (k + 1)) := by
          show _ = _
          rw [HN.out, List.map_append, HP.out, ← par_int]
          rfl
        have HPL3 : Hid ((pre ++ [(⟨((k : Int) % 2 == 1), z, hz16'⟩ : Run)]).length = k + 1) := by show _ = _; rw [List.length_append, HPL.out]; rfl
        clear hJ3 hk3 hy hR HN
        gi_wp2
        go_roundw
        case rel => exact ⟨k + 1, _, by omega, by go_num, HP3, HJ3, HB3, HPL3⟩
        case measure => simp [intOf]; omega
      · have HJx := Lib.hid hJx3
        clear hJx3 hy hR
        gi_wp2
        refine bodyPost_ret (results_none rfl _ _ _) rfl ?_
        exact ⟨⟨_, rfl⟩, .inr ⟨_, trivial, HJx.out⟩⟩
    · have hkm : k = m := by omega
      subst hkm
      have HE : Hid (pre.map Run.pair = pairsTo zs zs.length) := by show _ = _; rw [HM.out]; exact HP.out
      gi_wp2
      go_end0
      exact ⟨⟨_, rfl⟩, .inl ⟨_, HE.out, HJ.out⟩⟩

set_option maxHeartbeats 1000000 in
theorem lens_in (n : Nat) (v : Option Addr) (len cap : Nat) (w : World) :
    CallsIn Fence.wide n Try.prog 32 #[.slice v len cap] w fun e w' => e = .returned (.func (.func 39) #[] #[.pointer (some ⟨w.heap.size, 0, none⟩)]) ∧ w' = w.alloc (.cells #[.slice v len cap] 25) := by
  refine callsIn_of_wp Try.func32 rfl trivial ?_ rfl
  simp only [Try.ntmps32, List.size_toArray, List.length_cons, List.length_nil, Nat.reduceAdd, Nat.reduceSub, Array.replicate_succ, Array.replicate_zero, List.push_toArray, List.append_toArray, List.nil_append, List.cons_append]
  gi_wp2
  go_ret
  exact ⟨rfl, rfl⟩

theorem lens_stops (n : Nat) (hn : 1 ≤ n) (Bs n₀ : Nat) (A : Option Addr) (cap : Nat) (zs : List Int) (hg : goodK zs zs.length = true) (w : World) (hBs : Bs < w.heap.size) (hn₀ : n₀ ≤ w.heap.size)
    (hc : w.cell? ⟨Bs, 0, none⟩ = some (.slice A zs.length cap)) (hI : IntsAt w n₀ A zs) :
    SeqStopsK Fence.wide n Try.prog 39 #[.pointer (some ⟨Bs, 0, none⟩)] (fun x : Run => #[.bool x.set, .int .i64 (x.len : Int)]) (Below n₀) (fun ys => ys.map Run.pair = pairsTo zs zs.length) (fun _ => True) zs.length w := fun l J Jx W hW _ _ hY h0 =>
  lens1_in n hn l Bs n₀ A cap zs hg J Jx hY W ((hW.cell (p := ⟨Bs, 0, none⟩) hBs).trans hc) (hI.below hW hn₀) h0

end Go.Proofs.Ytmepbogfdpmfaaa
