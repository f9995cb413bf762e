/- Contract of the model's DirectorySample: it answers as the data say, in memory of the call's own. Conditions: the nodes lie in memory; the list is short. -/
import Derived.Test.YtjefkpjjdloodaaSDir2
namespace Go.Proofs.Ytjefkpjjdloodaa
open Go.RowKit
set_option linter.unusedVariables false

theorem samp_take (xs : List LD) (seed : Int) (k : Nat) : (List.range (k + 1)).map (fun i => (lth xs (sampI xs.length seed i)).n) = (List.range k).map (fun i => (lth xs (sampI xs.length seed i)).n) ++ [(lth xs (sampI xs.length seed k)).n] := by
  rw [List.range_succ, List.map_append]; rfl
/-- What is listed behind k rounds. -/
def sampK (xs : List LD) (seed : Int) (k : Nat) : List Int := (List.range k).map (fun i => (lth xs (sampI xs.length seed i)).n)
theorem sampK_length (xs : List LD) (seed : Int) (k : Nat) : (sampK xs seed k).length = k := by unfold sampK; rw [List.length_map, List.length_range]
theorem sampK_succ (xs : List LD) (seed : Int) (k : Nat) : sampK xs seed (k + 1) = sampK xs seed k ++ [(lth xs (sampI xs.length seed k)).n] := samp_take xs seed k
theorem sample_eq {xs : List LD} {seed many : Int} {k : Nat} (h1 : dirB xs = true) (h2 : 0 ≤ seed) (h : k = min many.toNat xs.length) : sampleL xs seed many = sampK xs seed k := by rw [sample_ok h1 h2, h]; rfl

set_option maxHeartbeats 4000000 in
set_option maxRecDepth 100000 in
theorem sdirSample_any (A : Option Addr) (cap : Nat) (xs : List LD) (seed many : Int) (w : World) (hA : LisAt w w.heap.size A cap xs) (hs : seed ≤ 9223372036854775807) {n : Nat} (hn : xs.length = n) :
    Calls Try.prog 18 #[.slice A n cap, .int .i64 seed, .int .i64 many] w (RetInts w (sampleL xs seed many)) := by
  have HA := Lib.hid hA
  have HB0 : Hid (Below w.heap.size w w) := Below.refl _ _
  have hcap := hA.most
  have hle := hA.le
  unfold maxLen at hcap
  have HN := Lib.hid hn
  have CV : Hid (∀ U, Below w.heap.size w U → Calls Try.prog 8 #[.slice A n cap] U fun e w' => e = .returned (.bool (dirB xs)) ∧ ∃ q, w' = U.drewN q) := fun U hU => sdirValid_any A cap xs U (hA.belowS hU) hn
  rw [hn] at hle
  clear hA hn
  go_enter Try.func18, Try.ntmps18
  obtain ⟨Wc, HWc⟩ : ∃ Q0, Hid (w.alloc (.cells #[] 3) = Q0) := ⟨_, rfl⟩
  have HBc : Hid (Below w.heap.size w Wc) := by rw [← HWc.out]; exact HB0.out.alloc HB0.out.size _
  have HOc : Hid (OwnInts Wc w.heap.size (some ⟨w.heap.size, 0, none⟩) 0 []) := by rw [← HWc.out]; exact OwnInts.new w
  go_upto_region 2 with fail
  rw [HWc.out]
  go_wp2
  by_cases hin : dirB xs = true ∧ 0 ≤ seed
  · obtain ⟨hd, hs0⟩ := hin
    have HSH : Hid (n ≤ 8) := by rw [← HN.out]; exact (dirP_of hd).len
    rw [hd] at CV
    obtain ⟨mx, HMX⟩ : ∃ m, Hid (min many.toNat n = m) := ⟨_, rfl⟩
    have HRES : Hid (sampleL xs seed many = sampK xs seed mx) := sample_eq hd hs0 (by rw [HN.out]; exact HMX.out.symm)
    clear hd
    go_loopw [7, 8] (fun s i wr => ∃ (k x : Nat) (X : Option Addr), k ≤ mx ∧ s = .slice X k x ∧ i = .int .i64 (k : Int) ∧ Hid (Below w.heap.size w wr) ∧ Hid (OwnInts wr w.heap.size X x (sampK xs seed k))) (fun _ i _ => mx - (intOf i).toNat)
    case atStart => exact ⟨0, 0, _, Nat.zero_le _, rfl, rfl, HBc, HOc⟩
    case round =>
      obtain ⟨k, x, X, hk, rfl, rfl, HBr, HO⟩ := hrel
      by_cases hlt : k < mx
      · have hkn : k < n := by have := HMX.out; omega
        have hkm : (k : Int) < many := by have := HMX.out; omega
        have hki : (k : Int) < (n : Int) := by omega
        have hn0 : 0 < n := by omega
        have hn8 : n ≤ 8 := HSH.out
        obtain ⟨s0, HS0⟩ : ∃ m, Hid (seed.toNat % n = m) := ⟨_, rfl⟩
        have hs0n : s0 < n := by rw [← HS0.out]; exact Nat.mod_lt _ hn0
        obtain ⟨j, HJ⟩ : ∃ m, Hid ((s0 + k) % n = m) := ⟨_, rfl⟩
        have hjn : j < n := by rw [← HJ.out]; exact Nat.mod_lt _ hn0
        have HSI : Hid (sampI xs.length seed k = j) := by show _ = _; unfold sampI; rw [HN.out, HS0.out, HJ.out]
        have hm1 : seed.tmod (n : Int) = (s0 : Int) := by
          rw [Int.tmod_eq_emod_of_nonneg hs0, ← HS0.out]
          have : seed = (seed.toNat : Int) := by omega
          rw [this]; simp
        have hw1 : IntKind.i64.wrap (s0 : Int) = (s0 : Int) := IntWalk.i64_in _ (by omega)
        have hw2 : IntKind.i64.wrap ((s0 : Int) + (k : Int)) = ((s0 + k : Nat) : Int) := by rw [show (s0 : Int) + (k : Int) = ((s0 + k : Nat) : Int) by omega]; exact IntWalk.i64_in _ (by omega)
        have hm2 : (((s0 + k : Nat) : Int)).tmod (n : Int) = (j : Int) := by
          rw [Int.tmod_eq_emod_of_nonneg (by omega), ← HJ.out]; simp
        have hm3 : ((s0 : Int) + (k : Int)).tmod (n : Int) = (j : Int) := by rw [← hm2]; simp
        have hw3 : IntKind.i64.wrap (j : Int) = (j : Int) := IntWalk.i64_in _ (by omega)
        have hj0 : (0 : Int) ≤ (j : Int) := by omega
        have hji : (j : Int) < (n : Int) := by omega
        have hne : ((n : Int) == 0) = false := beq_eq_false_iff_ne.2 (by omega)
        have hne2 : ¬ (n : Int) = 0 := by omega
        have hne3 : ¬ n = 0 := by omega
        go_wp2_with fail
        refine (CV.out _ HBr.out).mono ?_
        rintro e w1 ⟨rfl, q, rfl⟩
        obtain ⟨w1, HW1⟩ : ∃ U, Hid (wr.drewN q = U) := ⟨_, rfl⟩
        have HB1 : Hid (Below w.heap.size w w1) := by rw [← HW1.out]; exact below_drewN HBr.out q
        have HO1 : Hid (OwnInts w1 w.heap.size X x (sampK xs seed k)) := by rw [← HW1.out]; exact HO.out
        rw [HW1.out]
        have hj := HA.out.belowS HB1.out
        have hjl : j < xs.length := by rw [HN.out]; exact hjn
        obtain ⟨b, o, rfl⟩ := hj.row.some_ (by omega)
        have c0 := (lis_cells hj.row j hjl).1
        obtain ⟨vn, HVN⟩ : ∃ v, Hid ((lth xs j).n = v) := ⟨_, rfl⟩
        rw [HVN.out] at c0
        have HSS : Hid (sampK xs seed (k + 1) = sampK xs seed k ++ [vn]) := by show _ = _; rw [sampK_succ, HSI.out, HVN.out]
        have HL := Lib.hid (sampK_length xs seed k)
        have hbz : w.heap.size ≤ w1.heap.size := HB1.out.size
        clear hj hjl
        go_wp2_with (at_builtin; refine wpList_app_ints rfl (.tmp 29) (.tmp 43) rfl _ w.heap.size X x (sampK xs seed k) (by rw [HL.out]; rfl) _ _ [vn] rfl (HO1.out.alloc _) (one_new _ _) (by rw [HL.out]; simp; omega) (by simp; omega) (by simp) ?_; intro v w7 hA; obtain ⟨Y, y, rfl, ho7⟩ := hA.own; have HB7 : Hid (Below w.heap.size w w7) := ((HB1.out.alloc hbz _).trans hA.below); have HO7 : Hid (OwnInts w7 w.heap.size Y y (sampK xs seed (k + 1))) := (by rw [HSS.out]; exact ho7); have HL7 : Hid ((sampK xs seed k ++ [vn]).length = k + 1) := (by show _ = _; rw [List.length_append, HL.out]; rfl); rw [HL7.out]; clear hA ho7)
        go_roundw
        case rel => exact ⟨k + 1, y, Y, by omega, rfl, by go_num, HB7, HO7⟩
        case measure => simp [intOf]; omega
      · have hkn : k = mx := by omega
        subst hkn
        have hn8 : n ≤ 8 := HSH.out
        by_cases hmm : (k : Int) < many
        · have hkn : k = n := by have := HMX.out; omega
          have hki : ¬ (k : Int) < (n : Int) := by omega
          have hki2 : ¬ k < n := by omega
          have hki3 : decide (k < n) = false := decide_eq_false hki2
          clear hkn
          go_wp2
          go_ret
          exact ⟨X, x, by rw [HRES.out, sampK_length]; rfl, by rw [HRES.out]; exact HO.out, HBr.out⟩
        · go_wp2
          go_ret
          exact ⟨X, x, by rw [HRES.out, sampK_length]; rfl, by rw [HRES.out]; exact HO.out, HBr.out⟩
  · have HRES : Hid (sampleL xs seed many = []) := sample_no (by
      rw [Bool.eq_false_iff]; intro e; rw [Bool.and_eq_true, decide_eq_true_eq] at e; exact hin e)
    go_loopw [7, 8] (fun s i wr => s = .slice (some ⟨w.heap.size, 0, none⟩) 0 0 ∧ i = .int .i64 0 ∧ Hid (Below w.heap.size w wr) ∧ Hid (OwnInts wr w.heap.size (some ⟨w.heap.size, 0, none⟩) 0 [])) (fun _ _ _ => 0)
    case atStart => exact ⟨rfl, rfl, HBc, HOc⟩
    case round =>
      obtain ⟨rfl, rfl, HBr, HO⟩ := hrel
      by_cases hm : (0 : Int) < many
      · by_cases hnz : (0 : Int) < (n : Int)
        · have hnz2 : 0 < n := by omega
          have hnd : decide (0 < n) = true := decide_eq_true hnz2
          by_cases hs0 : 0 ≤ seed
          · have hd : dirB xs = false := by
              cases e : dirB xs with
              | false => rfl
              | true => exact absurd ⟨e, hs0⟩ hin
            rw [hd] at CV
            clear hin hd
            go_wp2_with fail
            refine (CV.out _ HBr.out).mono ?_
            rintro e w1 ⟨rfl, q, rfl⟩
            have HB1 : Hid (Below w.heap.size w (wr.drewN q)) := below_drewN HBr.out q
            go_wp2
            go_ret
            exact ⟨_, _, by rw [HRES.out]; rfl, by rw [HRES.out]; exact HO.out, HB1.out⟩
          · clear hin
            go_wp2
            go_ret
            exact ⟨_, _, by rw [HRES.out]; rfl, by rw [HRES.out]; exact HO.out, HBr.out⟩
        · have hnz2 : n = 0 := by omega
          clear hin
          go_wp2
          go_ret
          exact ⟨_, _, by rw [HRES.out]; rfl, by rw [HRES.out]; exact HO.out, HBr.out⟩
      · clear hin
        go_wp2
        go_ret
        exact ⟨_, _, by rw [HRES.out]; rfl, by rw [HRES.out]; exact HO.out, HBr.out⟩

end Go.Proofs.Ytjefkpjjdloodaa
