/- Contract of the model's TreeGrowthCheck: it reports whether a proof of growth is right. Condition: the proof lies in memory. -/
import Derived.Test.YtajiciapiopjcaaSpecMerge
namespace Go.Proofs.Ytajiciapiopjcaa
open Go.RowKit
set_option linter.unusedVariables false

theorem look_pos : allMN (fun m n => (growSizes m n).all fun x => decide (1 ≤ x)) = true := by decide +kernel

set_option maxHeartbeats 4000000 in
set_option maxRecDepth 100000 in
theorem sgcheck_yes (m n : Nat) (old digest : Int) (A : Option Addr) (cap : Nat) (zs : List Int) (w : World) (hI : IntsAt w w.heap.size A zs) (hcap : zs.length ≤ cap) (hmax : cap ≤ maxLen) (hn : n ≤ 16) (hm : m ≤ n) (hd : digB zs = true) :
    Calls Try.prog 21 #[.int .i64 (m : Int), .int .i64 old, .int .i64 (n : Int), .int .i64 digest, .slice A zs.length cap] w fun e w' => e = .returned (.bool (growB m n old digest zs)) ∧ Below w.heap.size w w' := by
  have HI := Lib.hid hI
  have HM := Lib.hid (Nat.le_trans hcap hmax)
  have HD := Lib.hid hd
  have HDD := Lib.hid (digB_yes hd)
  have hzl : zs.length ≤ 9223372036854775807 := by have := Nat.le_trans hcap hmax; unfold maxLen at this; omega
  have hl9 := growSizes_le hn hm
  obtain ⟨S1, HS1⟩ : ∃ l, Hid (sizesOf 0 m = l) := ⟨_, rfl⟩
  obtain ⟨SS, HGS⟩ : ∃ l, Hid (growSizes m n = l) := ⟨_, rfl⟩
  have hl1 : S1.length ≤ SS.length := by rw [← HGS.out, ← HS1.out]; unfold growSizes; rw [List.length_append]; omega
  rw [HGS.out] at hl9
  have hc63 := hmax
  unfold maxLen at hc63
  have HCC := Lib.hid hcap
  clear hI hmax hd
  go_enter Try.func21, Try.ntmps21
  go_wp2_with fail
  refine (in_yes _ _ _ _ (by omega) (by omega)).mono ?_
  rintro e w' ⟨rfl, rfl⟩
  go_wp2_with fail
  refine (in_yes _ _ _ _ (by omega) (by omega)).mono ?_
  rintro e w' ⟨rfl, rfl⟩
  go_wp2_with fail
  refine (sdig2_any _ _ zs _ HI.out HM.out).mono ?_
  rintro e w' ⟨rfl, rfl⟩
  rw [HD.out]
  go_wp2_with fail
  refine (ssizes_any m n _ hn hm).mono ?_
  rintro e w3 ⟨A3, c3, rfl, hown3, hb3⟩
  rw [HGS.out] at hown3 ⊢
  rw [HS1.out]
  have HO3 := Lib.hid hown3
  have HB3 := Lib.hid hb3
  clear hown3 hb3
  by_cases hlen : zs.length = SS.length
  · have hlb : ((zs.length : Int) != (SS.length : Int)) = false := by simp [hlen]
    have HLE := Lib.hid hlen
    have hki : (S1.length : Int) ≤ (zs.length : Int) := by omega
    have hki2 : (S1.length : Int) ≤ (cap : Int) := by omega
    have hki3 : (zs.length : Int) ≤ (cap : Int) := by omega
    have hlt : (zs.take S1.length).length = S1.length := by rw [List.length_take]; omega
    obtain ⟨f1, HF1⟩ : ∃ f, Hid (foldZ m (zs.take S1.length) = f) := ⟨_, rfl⟩
    have CP : Hid (Calls Try.prog 43 #[.int .i64 (m : Int), .slice A S1.length cap] w3 fun e w' => e = .returned (.int .i64 f1) ∧ w3 = w') := by
      have := sfold_any (m : Int) A cap (zs.take S1.length) w3 ((HI.out.belowS HB3.out).first S1.length) (by rw [hlt]; unfold maxLen; omega) (by omega) (by omega) (HDD.out.take _)
      rw [hlt, HF1.out] at this
      exact this
    clear hlt hlen
    go_wp2_with fail
    refine CP.out.mono ?_
    rintro e w' ⟨rfl, rfl⟩
    by_cases hold : f1 = old
    · have hob : (f1 == old) = true := by rw [beq_iff_eq]; exact hold
      have HOLD := Lib.hid hold
      clear hold
      have CM : Hid (Calls Try.prog 48 #[.slice A3 SS.length c3, .slice A zs.length cap] w3 (RetInts w3 (mergeZ SS zs))) := by
        have hsum := of_decide_eq_true (allMN_get look_sum hn hm)
        have hpos := allMN_get look_pos hn hm
        rw [HGS.out] at hsum hpos
        have := smerge_any A3 c3 SS A cap zs w3 HO3.out.ints (HI.out.belowS HB3.out) HLE.out HDD.out (by rw [tot_zip SS zs HLE.out, hsum]; omega) (fun x hx => of_decide_eq_true (List.all_eq_true.1 hpos x hx)) (by omega)
        have hms := merge_same m n zs hn hm (by rw [HGS.out]; exact HLE.out)
        rw [HGS.out] at hms
        rw [hms] at this
        exact this
      go_wp2_with fail
      refine CM.out.mono ?_
      rintro e w5 ⟨A5, c5, rfl, hown5, hb5⟩
      have HO5 := Lib.hid hown5
      have HB5 : Hid (Below w.heap.size w w5) := HB3.out.trans (hb5.mono HB3.out.size)
      clear hown5 hb5
      obtain ⟨f2, HF2⟩ : ∃ f, Hid (foldZ n (mergeZ SS zs) = f) := ⟨_, rfl⟩
      go_wp2_with fail
      refine (sfold_any (n : Int) A5 c5 (mergeZ SS zs) _ HO5.out.ints (Nat.le_trans HO5.out.le.1 HO5.out.le.2) (by omega) (by omega) (mergeZ_digs SS zs HDD.out)).mono ?_
      rintro e w' ⟨rfl, rfl⟩
      rw [HF2.out]
      have HRES : Hid (growB m n old digest zs = (f2 == digest)) := by
        show _ = _
        unfold growB
        rw [HGS.out, HS1.out, HF1.out, HF2.out, decide_eq_true HLE.out, decide_eq_true HOLD.out]
        simp
        rw [Bool.eq_iff_iff]; simp
      go_wp2
      go_ret
      exact ⟨ret_bool (by rw [HRES.out]), HB5.out⟩
    · have hob : (f1 == old) = false := by rw [beq_eq_false_iff_ne]; exact hold
      have HRES : Hid (growB m n old digest zs = false) := by
        show _ = _
        unfold growB
        rw [HGS.out, HS1.out, HF1.out, decide_eq_false hold]
        simp
      clear hold
      go_wp2
      go_ret
      exact ⟨ret_bool (by rw [HRES.out]), HB3.out⟩
  · have hlb : ((zs.length : Int) != (SS.length : Int)) = true := by rw [bne_iff_ne]; omega
    have HRES : Hid (growB m n old digest zs = false) := by
      show _ = _
      unfold growB
      rw [HGS.out, decide_eq_false hlen]
      rfl
    clear hlen
    go_wp2
    go_ret
    exact ⟨ret_bool (by rw [HRES.out]), HB3.out⟩

set_option maxHeartbeats 1000000 in
theorem sgcheck_nod (m n : Nat) (old digest : Int) (A : Option Addr) (cap : Nat) (zs : List Int) (w : World) (hI : IntsAt w w.heap.size A zs) (hcap : zs.length ≤ cap) (hmax : cap ≤ maxLen) (hn : n ≤ 16) (hm : m ≤ n) (hd : digB zs = false) :
    Calls Try.prog 21 #[.int .i64 (m : Int), .int .i64 old, .int .i64 (n : Int), .int .i64 digest, .slice A zs.length cap] w fun e w' => e = .returned (.bool false) ∧ Below w.heap.size w w' := by
  have HI := Lib.hid hI
  have HM := Lib.hid (Nat.le_trans hcap hmax)
  have HD := Lib.hid hd
  clear hI hcap hmax hd
  go_enter Try.func21, Try.ntmps21
  go_wp2_with fail
  refine (in_yes _ _ _ _ (by omega) (by omega)).mono ?_
  rintro e w' ⟨rfl, rfl⟩
  go_wp2_with fail
  refine (in_yes _ _ _ _ (by omega) (by omega)).mono ?_
  rintro e w' ⟨rfl, rfl⟩
  go_wp2_with fail
  refine (sdig2_any _ _ zs _ HI.out HM.out).mono ?_
  rintro e w' ⟨rfl, rfl⟩
  rw [HD.out]
  go_wp2
  go_ret
  exact ⟨rfl, Below.refl _ _⟩

set_option maxHeartbeats 1000000 in
theorem sgcheck_no (m n : Int) (old digest : Int) (A : Option Addr) (cap : Nat) (zs : List Int) (w : World) (hno : ¬ (0 ≤ n ∧ n ≤ 16 ∧ 0 ≤ m ∧ m ≤ n)) :
    Calls Try.prog 21 #[.int .i64 m, .int .i64 old, .int .i64 n, .int .i64 digest, .slice A zs.length cap] w fun e w' => e = .returned (.bool false) ∧ Below w.heap.size w w' := by
  by_cases h1 : 0 ≤ n ∧ n ≤ 16
  · have HMN : Hid (¬ (0 ≤ m ∧ m ≤ n)) := fun h => hno ⟨h1.1, h1.2, h.1, h.2⟩
    obtain ⟨h10, h11⟩ := h1
    clear hno
    go_enter Try.func21, Try.ntmps21
    go_wp2_with fail
    refine (in_yes _ _ _ _ h10 h11).mono ?_
    rintro e w' ⟨rfl, rfl⟩
    go_wp2_with fail
    refine (in_no _ _ _ _ HMN.out).mono ?_
    rintro e w' ⟨rfl, rfl⟩
    go_wp2
    go_ret
    exact ⟨rfl, Below.refl _ _⟩
  · have HNN := Lib.hid h1
    clear hno h1
    go_enter Try.func21, Try.ntmps21
    go_wp2_with fail
    refine (in_no _ _ _ _ HNN.out).mono ?_
    rintro e w' ⟨rfl, rfl⟩
    go_wp2
    go_ret
    exact ⟨rfl, Below.refl _ _⟩

theorem sgcheck_any (zs : List Int) (m old n digest : Int) (A : Option Addr) (cap : Nat) (w : World) (hI : IntsAt w w.heap.size A zs) (hcap : zs.length ≤ cap) (hmax : cap ≤ maxLen) :
    Calls Try.prog 21 #[.int .i64 m, .int .i64 old, .int .i64 n, .int .i64 digest, .slice A zs.length cap] w fun e w' => e = .returned (.bool (growOkB m old n digest zs)) ∧ Below w.heap.size w w' := by
  by_cases h : 0 ≤ n ∧ n ≤ 16 ∧ 0 ≤ m ∧ m ≤ n
  · obtain ⟨k, rfl⟩ := Int.eq_ofNat_of_zero_le h.1
    obtain ⟨j, rfl⟩ := Int.eq_ofNat_of_zero_le h.2.2.1
    cases hd : digB zs with
    | true => rw [growOkB_yes (by omega) (by omega) hd]; exact sgcheck_yes j k old digest A cap zs w hI hcap hmax (by omega) (by omega) hd
    | false => rw [growOkB_nod hd]; exact sgcheck_nod j k old digest A cap zs w hI hcap hmax (by omega) (by omega) hd
  · rw [growOkB_no h]; exact sgcheck_no m n old digest A cap zs w h

end Go.Proofs.Ytajiciapiopjcaa
