/- The walk of FnExactDirectoryPut: it returns true and changes nothing that was there. Condition: the arguments' cells lie in memory. -/
import Derived.Test.YtjefkpjjdloodaaExactLis
import Derived.Test.YtjefkpjjdloodaaSDirPut
import Derived.Test.YtjefkpjjdloodaaDir
namespace Go.Proofs.Ytjefkpjjdloodaa
open Go.RowKit
set_option linter.unusedVariables false

set_option maxHeartbeats 8000000 in
set_option maxRecDepth 100000 in
theorem walkExactDirectoryPut (A : Option Addr) (cap : Nat) (xs : List LD) (node now : Int) (w : World) (hI : RowAt LK w w.heap.size A xs) (hm : xs.length ≤ maxLen) :
    Calls Try.prog 4 #[.slice A xs.length cap, .int .i64 node, .int .i64 now] w fun e w' => e = .returned (.bool true) ∧ Below w.heap.size w w' := by
  unfold maxLen at hm
  have HI := Lib.hid hI
  clear hI
  obtain ⟨n, HN⟩ : ∃ n, Hid (xs.length = n) := ⟨_, rfl⟩
  rw [HN.out] at hm ⊢
  by_cases hlen : n ≤ 1048576
  · have HL : Hid (xs.length ≤ 1048576) := by show _ ≤ _; rw [HN.out]; exact hlen
    have HLM : Hid (xs.length ≤ maxLen) := by show _ ≤ _; rw [HN.out]; unfold maxLen; omega
    have TOAS : Hid (∀ U, RowAt LK U U.heap.size A xs → Calls Try.prog 9 #[.slice A n cap] U fun e w' => ∃ g, e = .returned (.slice (some ⟨g, 0, none⟩) n n) ∧ OwnRow LK w' U.heap.size (some ⟨g, 0, none⟩) n xs ∧ Below U.heap.size U w') := fun U h => by
      have h := toLs_ret A cap xs U h HL.out
      rw [HN.out] at h
      exact h
    obtain ⟨os, HO⟩ : ∃ v, Hid (putL xs node now = v) := ⟨_, rfl⟩
    obtain ⟨ov, HV⟩ : ∃ v, Hid (putO xs node now = v) := ⟨_, rfl⟩
    obtain ⟨mb, HM⟩ : ∃ v, Hid (os.length = v) := ⟨_, rfl⟩
    have HMS : Hid (os.length ≤ 1048576) := by show _ ≤ _; rw [← HO.out]; exact putL_le xs node now HL.out
    have HMM : Hid (os.length ≤ maxLen) := by show _ ≤ _; have := HMS.out; unfold maxLen; omega
    have SPEC : Hid (∀ (A : Option Addr) (cap : Nat) (U : World), LisAt U U.heap.size A cap xs → Calls Try.prog 12 #[.slice A n cap, .int .i64 node, .int .i64 now] U (RetLisB U os ov)) := fun A cap U h => by
      have h := sdirPut_any A cap xs node now U h HN.out
      rw [HO.out, HV.out] at h
      exact h
    have IMPL : Hid (∀ (A : Option Addr) (cap : Nat) (U : World), LisAt U U.heap.size A cap xs → Calls Try.prog 13 #[.slice A n cap, .int .i64 node, .int .i64 now] U (RetLisB U os ov)) := fun A cap U h => by
      have h := dirPut_any A cap xs node now U h HN.out
      rw [HO.out, HV.out] at h
      exact h
    have HB0 : Hid (Below w.heap.size w w) := Below.refl _ w
    have HI0 := Lib.hid (HI.out.belowS HB0.out)
    go_enter Try.func4, Try.ntmps4
    go_wp2_with fail
    refine (szL_fit A n cap w hlen).mono ?_
    rintro e w' ⟨rfl, rfl⟩
    have hs0 : ¬ (1048576 - (n : Int)) < 0 := by omega
    go_wp2_with fail
    refine (TOAS.out _ HI0.out).mono ?_
    rintro e w1 ⟨g1, rfl, ho1, hb1⟩
    have X1 := Lib.hid ho1
    have hg1 : w.heap.size ≤ g1 ∧ g1 < w1.heap.size := ho1.lies _ rfl
    clear ho1
    have HI1 := Lib.hid (HI0.out.belowS hb1)
    have HB1 : Hid (Below w.heap.size w w1) := HB0.out.trans (hb1.mono HB0.out.size)
    have hz1 : w.heap.size ≤ w1.heap.size := hb1.size
    clear hb1
    have hz2e := hz1
    go_wp2_with fail
    refine (SPEC.out _ _ _ (own_lis X1.out)).mono ?_
    rintro e w3 ⟨A3, c3, rfl, ho3, hb3⟩
    rw [HM.out]
    have R3 := Lib.hid ho3
    have hlt3 : Hid (∀ g, A3 = some ⟨g, 0, none⟩ → w1.heap.size ≤ g ∧ g < w3.heap.size) := ho3.lies
    clear ho3
    have HI3 := Lib.hid (HI1.out.belowS hb3)
    have X3 := Lib.hid (X1.out.below hb3)
    have HB3 : Hid (Below w.heap.size w w3) := HB1.out.trans (hb3.mono HB1.out.size)
    have hz3 : w1.heap.size ≤ w3.heap.size := hb3.size
    clear hb3
    have RW3 := R3
    go_wp2_with fail
    refine (TOAS.out _ HI3.out).mono ?_
    rintro e w4 ⟨g4, rfl, ho4, hb4⟩
    have X4 := Lib.hid ho4
    have hg4 : w3.heap.size ≤ g4 ∧ g4 < w4.heap.size := ho4.lies _ rfl
    clear ho4
    have HI4 := Lib.hid (HI3.out.belowS hb4)
    have RW4 := Lib.hid (RW3.out.below hb4)
    have HB4 : Hid (Below w.heap.size w w4) := HB3.out.trans (hb4.mono HB3.out.size)
    have hz4 : w3.heap.size ≤ w4.heap.size := hb4.size
    clear hb4
    go_wp2_with fail
    refine (IMPL.out _ _ _ (own_lis X4.out)).mono ?_
    rintro e w6 ⟨A6, c6, rfl, ho6, hb6⟩
    rw [HM.out]
    have R6 := Lib.hid ho6
    have hlt6 : Hid (∀ g, A6 = some ⟨g, 0, none⟩ → w4.heap.size ≤ g ∧ g < w6.heap.size) := ho6.lies
    clear ho6
    have HI6 := Lib.hid (HI4.out.belowS hb6)
    have RW6 := Lib.hid (RW4.out.below hb6)
    have X6 := Lib.hid (X4.out.below hb6)
    have HB6 : Hid (Below w.heap.size w w6) := HB4.out.trans (hb6.mono HB4.out.size)
    have hz6 : w4.heap.size ≤ w6.heap.size := hb6.size
    clear hb6
    have RG6 := R6
    have hve : (ov != ov) = false := by simp
    go_wp2_with fail
    refine (eqLs_any A6 c6 A3 c3 os w6 RG6.out.at_ RW6.out.at_ HMM.out HM.out).mono ?_
    rintro e w7 ⟨rfl, hb7⟩
    have HI7 := Lib.hid (HI6.out.belowS hb7)
    have RW7 := Lib.hid (RW6.out.below hb7)
    have X7 := Lib.hid (X6.out.below hb7)
    have RG7 := Lib.hid (RG6.out.below hb7)
    have HB7 : Hid (Below w.heap.size w w7) := HB6.out.trans (hb7.mono HB6.out.size)
    have hz7 : w6.heap.size ≤ w7.heap.size := hb7.size
    clear hb7
    go_wp2_with fail
    refine (TOAS.out _ HI7.out).mono ?_
    rintro e w8 ⟨g8, rfl, ho8, hb8⟩
    have T8 := Lib.hid ho8
    have hg8 : w7.heap.size ≤ g8 ∧ g8 < w8.heap.size := ho8.lies _ rfl
    clear ho8
    have HI8 := Lib.hid (HI7.out.belowS hb8)
    have RW8 := Lib.hid (RW7.out.below hb8)
    have X8 := Lib.hid (X7.out.below hb8)
    have RG8 := Lib.hid (RG7.out.below hb8)
    have HB8 : Hid (Below w.heap.size w w8) := HB7.out.trans (hb8.mono HB7.out.size)
    have hz8 : w7.heap.size ≤ w8.heap.size := hb8.size
    clear hb8
    go_wp2_with fail
    refine (eqLs_any _ n _ n xs w8 X8.out.at_ T8.out.at_ HLM.out HN.out).mono ?_
    rintro e w9 ⟨rfl, hb9⟩
    have HI9 := Lib.hid (HI8.out.belowS hb9)
    have RW9 := Lib.hid (RW8.out.below hb9)
    have X9 := Lib.hid (X8.out.below hb9)
    have RG9 := Lib.hid (RG8.out.below hb9)
    have T9 := Lib.hid (T8.out.below hb9)
    have HB9 : Hid (Below w.heap.size w w9) := HB8.out.trans (hb9.mono HB8.out.size)
    have hz9 : w8.heap.size ≤ w9.heap.size := hb9.size
    clear hb9
    go_wp2_with fail
    have CM := markL_any _ _ _ xs w9 X9.out HL.out
    rw [HN.out] at CM
    refine CM.mono ?_
    rintro e w10 hm10
    clear CM
    obtain ⟨hb10, hk10⟩ := marked2_other X9.out hm10 (by omega)
    obtain ⟨rfl, -, -, -⟩ := hm10
    have hx4 : w3.heap.size ≤ w9.heap.size := by omega
    have RW10 := Lib.hid (RW9.out.older (fun g hA => (hlt3.out g hA).2) hb10)
    have RG10 := Lib.hid (RG9.out.block fun g hA => hk10 g (RG9.out.lies g hA).2 fun g' hA' => by injection hA' with hA'; injection hA' with hA' _ _; have := (hlt6.out g hA).1; omega)
    have HI10 := Lib.hid (HI.out.belowS (HB9.out.trans (hb10.mono (Nat.le_trans HB3.out.size (Nat.le_refl _)))))
    have HB10 : Hid (Below w.heap.size w w10) := HB9.out.trans (hb10.mono HB3.out.size)
    have hz10 : w9.heap.size ≤ w10.heap.size := hb10.size
    clear hb10 hk10
    have hk1 : ¬ (((1 + 2 * n : Nat) : Int) < 0) := by omega
    go_wp2_with fail
    refine (eqLs_any A6 c6 A3 c3 os w10 RG10.out.at_ RW10.out.at_ HMM.out HM.out).mono ?_
    rintro e w11 ⟨rfl, hb11⟩
    have HI11 := Lib.hid (HI10.out.belowS hb11)
    have RW11 := Lib.hid (RW10.out.below hb11)
    have RG11 := Lib.hid (RG10.out.below hb11)
    have HB11 : Hid (Below w.heap.size w w11) := HB10.out.trans (hb11.mono HB10.out.size)
    have hz11 : w10.heap.size ≤ w11.heap.size := hb11.size
    clear hb11
    go_wp2_with fail
    have CM := markL_any _ A6 c6 os w11 RG11.out HMS.out
    rw [HM.out] at CM
    refine CM.mono ?_
    rintro e w12 hm12
    clear CM
    obtain ⟨hb12, -⟩ := marked2_other RG11.out hm12 (by omega)
    obtain ⟨rfl, ho12, -, -⟩ := hm12
    have RM12 := Lib.hid ho12
    clear ho12
    have RW12 := Lib.hid (RW11.out.older (fun g hA => by have := (hlt3.out g hA).2; omega) hb12)
    have HB12 : Hid (Below w.heap.size w w12) := HB11.out.trans (hb12.mono (Nat.le_trans HB3.out.size (by omega)))
    have HI12 := Lib.hid (HI.out.belowS HB12.out)
    have hz12 : w11.heap.size ≤ w12.heap.size := hb12.size
    clear hb12
    have hmb : mb ≤ 1048576 := by rw [← HM.out]; exact HMS.out
    have hk2 : ¬ (((1 + 2 * mb : Nat) : Int) < 0) := by omega
    have hk3 : ((((1 + 2 * mb : Nat) : Int)) != ((1 + 2 * mb : Nat) : Int)) = false := by simp
    go_wp2_with fail
    refine (heldL_any A6 c6 mb w12 RM12.out.at_ hmb).mono ?_
    rintro e w13 ⟨rfl, hb13⟩
    have HI13 := Lib.hid (HI12.out.belowS hb13)
    have RW13 := Lib.hid (RW12.out.below hb13)
    have RM13 := Lib.hid (RM12.out.below hb13)
    have HB13 : Hid (Below w.heap.size w w13) := HB12.out.trans (hb13.mono HB12.out.size)
    have hz13 : w12.heap.size ≤ w13.heap.size := hb13.size
    clear hb13
    go_wp2_with fail
    refine (TOAS.out _ HI13.out).mono ?_
    rintro e w14 ⟨g14, rfl, ho14, hb14⟩
    have X14 := Lib.hid ho14
    have hg14 : w13.heap.size ≤ g14 ∧ g14 < w14.heap.size := ho14.lies _ rfl
    clear ho14
    have HI14 := Lib.hid (HI13.out.belowS hb14)
    have RW14 := Lib.hid (RW13.out.below hb14)
    have RM14 := Lib.hid (RM13.out.below hb14)
    have HB14 : Hid (Below w.heap.size w w14) := HB13.out.trans (hb14.mono HB13.out.size)
    have hz14 : w13.heap.size ≤ w14.heap.size := hb14.size
    clear hb14
    go_wp2_with fail
    refine (IMPL.out _ _ _ (own_lis X14.out)).mono ?_
    rintro e w16 ⟨A16, c16, rfl, ho16, hb16⟩
    rw [HM.out]
    have R16 := Lib.hid ho16
    have hlt16 : Hid (∀ g, A16 = some ⟨g, 0, none⟩ → w14.heap.size ≤ g ∧ g < w16.heap.size) := ho16.lies
    clear ho16
    have HI16 := Lib.hid (HI14.out.belowS hb16)
    have RW16 := Lib.hid (RW14.out.below hb16)
    have RM16 := Lib.hid (RM14.out.below hb16)
    have X16 := Lib.hid (X14.out.below hb16)
    have HB16 : Hid (Below w.heap.size w w16) := HB14.out.trans (hb16.mono HB14.out.size)
    have hz16 : w14.heap.size ≤ w16.heap.size := hb16.size
    clear hb16
    have RH16 := R16
    go_wp2_with fail
    refine (eqLs_any A16 c16 A3 c3 os w16 RH16.out.at_ RW16.out.at_ HMM.out HM.out).mono ?_
    rintro e w17 ⟨rfl, hb17⟩
    have HI17 := Lib.hid (HI16.out.belowS hb17)
    have RW17 := Lib.hid (RW16.out.below hb17)
    have RM17 := Lib.hid (RM16.out.below hb17)
    have RH17 := Lib.hid (RH16.out.below hb17)
    have HB17 : Hid (Below w.heap.size w w17) := HB16.out.trans (hb17.mono HB16.out.size)
    have hz17 : w16.heap.size ≤ w17.heap.size := hb17.size
    clear hb17
    go_wp2_with fail
    refine (heldL_any A6 c6 mb w17 RM17.out.at_ hmb).mono ?_
    rintro e w18 ⟨rfl, hb18⟩
    have HB18 : Hid (Below w.heap.size w w18) := HB17.out.trans (hb18.mono HB17.out.size)
    clear hb18
    go_wp2
    go_ret
    exact ⟨rfl, HB18.out⟩
  · have h9 : 1048576 < n := by omega
    clear hlen
    have HB0 : Hid (Below w.heap.size w w) := Below.refl _ _
    go_enter Try.func4, Try.ntmps4
    go_wp2_with fail
    refine (szL_over A n cap _ h9 (by unfold maxLen; omega)).mono ?_
    rintro e w' ⟨rfl, rfl⟩
    go_wp2
    go_ret
    exact ⟨rfl, HB0.out⟩

end Go.Proofs.Ytjefkpjjdloodaa
