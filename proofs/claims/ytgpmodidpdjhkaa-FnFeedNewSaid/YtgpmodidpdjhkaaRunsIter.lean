/- Contract of the iterator that runsOfBits hands back: it hands every run of the bits to yield, in their order. Conditions: at most 16 bits, in memory; the loop's body keeps what lay before it. -/
import Derived.Test.YtgpmodidpdjhkaaRunsMath
import Derived.RangeFuncNested
import Derived.RangeFuncBound
import Derived.RangeFuncCalls
import Derived.RangeFuncLeaves
import Derived.RangeFuncBox
import Derived.Shelf.Abstract
import Derived.Shelf.RegionOpen
import Derived.OwnWalkIn
import Derived.TacticsInMore
import Derived.LoopNIn
import Derived.LoopIn
namespace Go.Proofs.Ytgpmodidpdjhkaa
open Go.RowKit Go.Shelf
set_option linter.unusedVariables false

attribute [local go_sem] Oper.semAt_some

/-- What yield is handed. -/
abbrev runVals (r : Run) : Array Value := #[.bool r.set, .int .i64 (r.len : Int)]

set_option maxRecDepth 100000 in
set_option maxHeartbeats 4000000 in
theorem runs1_in (n : Nat) (hn : 1 ≤ n) (l Bs n₀ : Nat) (A : Option Addr) (cap : Nat) (bs : List Bool) (hl : bs.length ≤ 16) (J Jx : List Run → World → Prop)
    (hY : ∀ pre (x : Run) W, J pre W → pre.length < bs.length + 1 → YieldAt Fence.wide (n - 1) Try.prog l #[.bool x.set, .int .i64 (x.len : Int)] W fun e W' =>
      (e = .returned (.bool true) ∧ J (pre ++ [x]) W' ∧ Below n₀ W W') ∨ (e = .returned (.bool false) ∧ Jx (pre ++ [x]) W'))
    (W : World) (hBs : W.cell? ⟨Bs, 0, none⟩ = some (.slice A bs.length cap)) (hI : BoolsAt W n₀ A bs) (h0 : J [] W) :
    CallsIn Fence.wide n Try.prog 98 #[.func (.yield l) #[] #[], .pointer (some ⟨Bs, 0, none⟩)] W fun e W' => (∃ v, e = .returned v) ∧
      ((∃ ys, ys.map Run.pair = runsL bs ∧ J ys W') ∨ (∃ pre, True ∧ Jx pre W')) := by
  have HI := Lib.hid hI
  obtain ⟨m, HM⟩ : ∃ m, Hid (bs.length = m) := ⟨_, rfl⟩
  rw [HM.out] at hl hBs
  have HY := Lib.hid hY
  clear hI hY
  refine callsIn_of_wp Try.func98 rfl trivial ?_ rfl
  simp only [Try.ntmps98, List.size_toArray, List.length_cons, List.length_nil, Nat.reduceAdd, Nat.reduceSub, Array.replicate_succ, Array.replicate_zero, List.push_toArray, List.append_toArray, List.nil_append, List.cons_append]
  gi_wp2
  gi_loopw [3, 4, 9] (fun s t i wr => ∃ (k : Nat) (b : Bool) (c : Nat) (pre : List Run), k ≤ m ∧ i = .int .i64 k ∧ s = .bool b ∧ t = .int .i64 (c : Int) ∧ Hid (runSt (bs.take k) = (pre.map Run.pair, b, c)) ∧ Hid (J pre wr) ∧ Hid (Below n₀ W wr))
    (fun _ _ i _ => m - (intOf i).toNat)
  case atStart => exact ⟨0, false, 0, [], Nat.zero_le _, rfl, rfl, rfl, rfl, h0, Below.refl _ _⟩
  case round =>
    obtain ⟨k, b, c, pre, hk, rfl, rfl, rfl, HR, HJ, HB⟩ := hrel
    have hle := runSt_le (bs.take k)
    rw [HR.out] at hle
    have hc16 : c ≤ 16 := by have := hle.2.1; rw [List.length_take] at this; dsimp only at this; omega
    have hpl : pre.length ≤ k := by have := hle.1; rw [List.length_take] at this; simp at this; omega
    clear hle
    by_cases hlt : k < m
    · have hkz : k < bs.length := by rw [HM.out]; exact hlt
      obtain ⟨blk, o, rfl, hb, hc⟩ := (HI.out.below HB.out (Nat.le_refl _)) (by omega)
      have hck := hc k hkz
      clear hc
      have hki : (k : Int) < (m : Int) := by omega
      by_cases hv : bth bs k = b
      · have HN := Lib.hid (runSt_same hkz HR.out hv)
        have hvb : (!bth bs k == b) = false := by rw [hv]; simp
        clear hv hkz
        gi_wp2
        go_roundw
        case rel => exact ⟨k + 1, b, c + 1, pre, by omega, by go_num, rfl, by go_num, HN, HJ, HB⟩
        case measure => simp [intOf]; omega
      · have HN := Lib.hid (runSt_other hkz HR.out hv)
        have hvb : (!bth bs k == b) = true := by simp [hv]
        obtain ⟨fn, tmps, assign, body, hy, hR⟩ := HY.out pre ⟨b, c, hc16⟩ wr HJ.out (by omega)
        dsimp only at hy
        clear hv hkz
        gi_wp2
        refine hR.mono ?_
        rintro e W3 (⟨rfl, hJ3, hk3⟩ | ⟨rfl, hJx3⟩)
        · have HJ3 := Lib.hid hJ3
          have HB3 := Lib.hid (HB.out.trans hk3)
          have HN3 : Hid (runSt (bs.take (k + 1)) = ((pre ++ [(⟨b, c, hc16⟩ : Run)]).map Run.pair, bth bs k, 1)) := by
            show _ = _
            rw [HN.out, List.map_append]
            rfl
          clear hJ3 hk3 hy hR HN
          gi_wp2
          go_roundw
          case rel => exact ⟨k + 1, bth bs k, 1, _, by omega, by go_num, rfl, rfl, HN3, HJ3, HB3⟩
          case measure => simp [intOf]; omega
        · have HJx := Lib.hid hJx3
          clear hJx3 hy hR
          gi_wp2
          refine bodyPost_ret (results_none rfl _ _ _) rfl ?_
          exact ⟨⟨_, rfl⟩, .inr ⟨_, trivial, HJx.out⟩⟩
    · have hkm : k = m := by omega
      subst hkm
      have hR0 := HR.out
      rw [List.take_of_length_le (by rw [HM.out]; omega)] at hR0
      by_cases hc0 : 0 < c
      · obtain ⟨fn, tmps, assign, body, hy, hR⟩ := HY.out pre ⟨b, c, hc16⟩ wr HJ.out (by rw [HM.out]; omega)
        dsimp only at hy
        have HE : Hid ((pre ++ [(⟨b, c, hc16⟩ : Run)]).map Run.pair = runsL bs) := by
          show _ = _
          rw [runsL, hR0, if_pos hc0, List.map_append]
          rfl
        clear hR0
        gi_wp2
        refine hR.mono ?_
        rintro e W3 (⟨rfl, hJ3, hk3⟩ | ⟨rfl, hJx3⟩)
        · have HJ3 := Lib.hid hJ3
          clear hJ3 hk3 hy hR
          gi_wp2
          go_end0
          exact ⟨⟨_, rfl⟩, .inl ⟨_, HE.out, HJ3.out⟩⟩
        · have HJx := Lib.hid hJx3
          clear hJx3 hy hR
          gi_wp2
          go_end0
          exact ⟨⟨_, rfl⟩, .inr ⟨_, trivial, HJx.out⟩⟩
      · have HE : Hid (pre.map Run.pair = runsL bs) := by
          show _ = _
          rw [runsL, hR0, if_neg hc0, List.append_nil]
        have hc00 : c = 0 := by omega
        subst hc00
        clear hR0
        gi_wp2
        go_end0
        exact ⟨⟨_, rfl⟩, .inl ⟨_, HE.out, HJ.out⟩⟩

set_option maxHeartbeats 1000000 in
/-- runsOfBits boxes the slice; the function that it hands back captures the box. -/
theorem runs_in (n : Nat) (v : Option Addr) (len cap : Nat) (w : World) :
    CallsIn Fence.wide n Try.prog 56 #[.slice v len cap] w fun e w' => e = .returned (.func (.func 98) #[] #[.pointer (some ⟨w.heap.size, 0, none⟩)]) ∧ w' = w.alloc (.cells #[.slice v len cap] 27) := by
  refine callsIn_of_wp Try.func56 rfl trivial ?_ rfl
  simp only [Try.ntmps56, List.size_toArray, List.length_cons, List.length_nil, Nat.reduceAdd, Nat.reduceSub, Array.replicate_succ, Array.replicate_zero, List.push_toArray, List.append_toArray, List.nil_append, List.cons_append]
  gi_wp2
  go_ret
  exact ⟨rfl, rfl⟩

/-- The iterator's contract, as the law of a range over a function takes it. -/
theorem runs_stops (n : Nat) (hn : 1 ≤ n) (Bs n₀ : Nat) (A : Option Addr) (cap : Nat) (bs : List Bool) (hl : bs.length ≤ 16) (w : World) (hBs : Bs < w.heap.size) (hn₀ : n₀ ≤ w.heap.size)
    (hc : w.cell? ⟨Bs, 0, none⟩ = some (.slice A bs.length cap)) (hI : BoolsAt w n₀ A bs) :
    SeqStopsK Fence.wide n Try.prog 98 #[.pointer (some ⟨Bs, 0, none⟩)] (fun x : Run => #[.bool x.set, .int .i64 (x.len : Int)]) (Below n₀) (fun ys => ys.map Run.pair = runsL bs) (fun _ => True) (bs.length + 1) w := fun l J Jx W hW _ _ hY h0 =>
  runs1_in n hn l Bs n₀ A cap bs hl J Jx hY W ((hW.cell (p := ⟨Bs, 0, none⟩) hBs).trans hc) (hI.below hW hn₀) h0

end Go.Proofs.Ytgpmodidpdjhkaa
