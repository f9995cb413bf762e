/- Contract of the model's TreeProof. Condition: the leaves lie in memory. -/
import Derived.Test.YtlkgadgjcjpdcaaDoorPlace
import Derived.Test.YtlkgadgjcjpdcaaDoorPeakLaws
import Derived.Test.YtlkgadgjcjpdcaaDoorProof
namespace Go.Proofs.YtlkgadgjcjpdcaaDoor
open Go.RowKit
set_option linter.unusedVariables false

theorem look_sib : allNI (fun n i => [1, 2, 4, 8].all fun st => !decide (st < (peakOf n i).2) || (decide (sibAt i st + st ≤ n))) = true := by decide +kernel
theorem sib_facts {n i st : Nat} (h : n ≤ 16) (hi : i < n) (hst : st = 1 ∨ st = 2 ∨ st = 4 ∨ st = 8) (hlt : st < (peakOf n i).2) : sibAt i st + st ≤ n := by
  have := allNI_get look_sib h hi
  simp only [List.all_eq_true, Bool.or_eq_true, Bool.not_eq_true', decide_eq_false_iff_not, decide_eq_true_eq] at this
  have := this st (by rcases hst with e | e | e | e <;> subst e <;> simp)
  omega
theorem sibS_step {l : List Int} {i size f st : Nat} (h : st < size) : sibSGo pairZ 0 l i size (f + 1) st = rootG pairZ 0 4 (segG l (sibAt i st) st) :: sibSGo pairZ 0 l i size f (2 * st) := by
  show (if _ then _ else _) = _
  rw [if_pos h]
theorem sibS_stop {l : List Int} {i size f st : Nat} (h : ¬ st < size) : sibSGo pairZ 0 l i size f st = [] := by
  cases f with
  | zero => rfl
  | succ f => show (if _ then _ else _) = _; rw [if_neg h]

/-- Where the model's first loop stands. -/
structure SibAt (w : World) (zs : List Int) (i size : Nat) (A : Option Addr) (c : Nat) (ds : List Int) (st f : Nat) (w' : World) : Prop where
  own : OwnInts w' w.heap.size A c ds
  below : Below w.heap.size w w'
  rest : ds ++ sibSGo pairZ 0 zs i size f st = sibSGo pairZ 0 zs i size 5 1
  form : (st = 1 ∧ f = 5) ∨ (st = 2 ∧ f = 4) ∨ (st = 4 ∧ f = 3) ∨ (st = 8 ∧ f = 2) ∨ (st = 16 ∧ f = 1)
  short : ds.length + f = 5

/-- Where the model's second loop stands. -/
structure OutAt (w : World) (zs : List Int) (i n at_ : Nat) (A : Option Addr) (c : Nat) (es : List Int) (s f : Nat) (w' : World) : Prop where
  own : OwnInts w' w.heap.size A c es
  below : Below w.heap.size w w'
  rest : es ++ coverP pairZ 0 zs ((placesGo f s n).filter fun p => p.1 != at_) = proofS pairZ 0 zs i
  fuel : n < s + f
  short : es.length ≤ 5 + s

set_option maxHeartbeats 4000000 in
set_option maxRecDepth 100000 in
theorem sproof_yes (zs : List Int) (b o cap i : Nat) (w : World) (hI : IntsAt w w.heap.size (some ⟨b, o, none⟩) zs) (hcap : zs.length ≤ cap) (hmax : cap ≤ maxLen) (hv : leavesB zs = true) (hi : i < zs.length) :
    Calls Tryd.prog 10 #[.slice (some ⟨b, o, none⟩) zs.length cap, .int .i64 (i : Int)] w (RetInts w (proofS pairZ 0 zs i)) := by
  have HI := Lib.hid hI
  have HC := Lib.hid hcap
  obtain ⟨h16, hd⟩ := leavesB_yes hv
  have HD := Lib.hid hd
  obtain ⟨n, HN⟩ : ∃ n, Hid (zs.length = n) := ⟨_, rfl⟩
  have hin : i < n := by rw [← HN.out]; exact hi
  have h16n : n ≤ 16 := by rw [← HN.out]; exact h16
  have CL : Hid (∀ W : World, Below w.heap.size w W → Calls Tryd.prog 30 #[.slice (some ⟨b, o, none⟩) n cap] W fun e w' => e = .returned (.bool true) ∧ W = w') := fun W hW => by
    have := sdigs_any _ cap zs W (hI.belowS hW) (Nat.le_trans hcap hmax)
    rw [HN.out, hv] at this
    exact this
  obtain ⟨at_, HAT⟩ : ∃ a, Hid ((peakOf n i).1 = a) := ⟨_, rfl⟩
  obtain ⟨size, HSZ⟩ : ∃ s, Hid ((peakOf n i).2 = s) := ⟨_, rfl⟩
  have hs16 : size ≤ 16 := by
    obtain ⟨_, _, h3⟩ := place_facts h16n hin
    obtain ⟨_, h4, _⟩ := h3 (placeOf n i) (Nat.le_refl _)
    rw [← HSZ.out]
    show szOf n (placeOf n i) ≤ 16
    omega
  have hcn : n ≤ cap := by rw [← HN.out]; exact hcap
  rw [HN.out]
  unfold maxLen at hmax
  clear hI hv hd hcap hi h16
  go_enter Tryd.func10, Tryd.ntmps10
  go_wp2_with fail
  refine (CL.out _ ((Below.refl _ _).alloc (Nat.le_refl _) _)).mono ?_
  rintro e w' ⟨rfl, rfl⟩
  go_wp2_with fail
  refine (in_yes _ _ _ _ (by omega) (by omega)).mono ?_
  rintro e w' ⟨rfl, rfl⟩
  go_wp2_with fail
  refine (speak_any n i _ h16n hin).mono ?_
  rintro e w' ⟨rfl, rfl⟩
  rw [HAT.out, HSZ.out]
  go_wp2
  go_loopw [5, 9] (fun x st w' => ∃ (A : Option Addr) (c : Nat) (ds : List Int) (k f : Nat), x = .slice A ds.length c ∧ st = .int .i64 (k : Int) ∧ SibAt w zs i size A c ds k f w') (fun _ st _ => 16 - (intOf st).toNat)
  case atStart =>
    refine ⟨_, _, [], 1, 5, rfl, rfl, ?_⟩
    exact ⟨OwnInts.new w, (Below.refl _ _).alloc (Nat.le_refl _) _, rfl, by omega, rfl⟩
  case round =>
    obtain ⟨A, c, ds, k, f, rfl, rfl, hC⟩ := hrel
    have HC := Lib.hid hC
    have hform := hC.form
    have hshort := hC.short
    clear hC
    by_cases hlt : k < size
    · have hk1 : 1 ≤ k := by omega
      have hk16 : k ≤ 16 := by omega
      have hf1 : 2 ≤ f := by omega
      obtain ⟨f, rfl⟩ : ∃ f', f = f' + 1 := ⟨f - 1, by omega⟩
      have hsf : sibAt i k + k ≤ n := sib_facts h16n hin (by omega) (by rw [HSZ.out]; exact hlt)
      obtain ⟨q, HQ⟩ : ∃ q, Hid (i / k = q) := ⟨_, rfl⟩
      obtain ⟨m, HM⟩ : ∃ m, Hid (q * k = m) := ⟨_, rfl⟩
      have hmd : m / k = q := by rw [← HM.out]; exact Nat.mul_div_cancel q (by omega)
      have hmi : m ≤ i := by rw [← HM.out, ← HQ.out]; exact Nat.div_mul_le_self i k
      obtain ⟨sv, HSV⟩ : ∃ sv, Hid (sibAt i k = sv) := ⟨_, rfl⟩
      have hsv : sv = if q % 2 = 0 then m + k else m - k := by rw [← HSV.out]; unfold sibAt; rw [HQ.out, HM.out, hmd]
      have hmk : ¬ q % 2 = 0 → k ≤ m := fun h => by
        rw [← HM.out]
        have : 1 * k ≤ q * k := Nat.mul_le_mul_right k (by omega)
        omega
      rw [HSV.out] at hsf
      have hseg : (segG zs sv k).length = k := segG_length zs sv k (by rw [HN.out]; omega)
      obtain ⟨r, HR⟩ : ∃ r, Hid (rootG pairZ 0 4 (segG zs sv k) = r) := ⟨_, rfl⟩
      have C : Hid (Calls Tryd.prog 33 #[.slice (some ⟨b, o + sv, none⟩) k (cap - sv)] wr fun e w' => e = .returned (.int .i64 r) ∧ ∃ q, w' = wr.drewN q) := by
        have hp := ((HI.out.part sv k rfl).below HC.out.below (Nat.le_refl _)).more HC.out.below.size
        have := sroot_go 4 (segG zs sv k) b (o + sv) (cap - sv) wr hp (by omega) (by omega) (by omega) (by omega) (by unfold maxLen; omega) (HD.out.seg sv k)
        rw [hseg, HR.out] at this
        exact this
      have hb0 : w.heap.size ≤ wr.heap.size := HC.out.below.size
      have HREST : Hid ((ds ++ [r]) ++ sibSGo pairZ 0 zs i size f (2 * k) = sibSGo pairZ 0 zs i size 5 1) := by
        show _ = _
        rw [← HC.out.rest, sibS_step hlt, HSV.out, HR.out, List.append_assoc]; rfl
      have hi1 : (sv : Int) ≤ (sv : Int) + (k : Int) := by omega
      have hi2 : (sv : Int) + (k : Int) ≤ (cap : Int) := by omega
      have hne : ¬ cap = sv := by omega
      have e1 : (i : Int) / (k : Int) = (q : Int) := by rw [← HQ.out]; exact (Int.natCast_ediv i k).symm
      have e2 : (q : Int) * (k : Int) = (m : Int) := by rw [← HM.out]; exact (Int.natCast_mul q k).symm
      have e3 : (m : Int) / (k : Int) = (q : Int) := by rw [← hmd]; exact (Int.natCast_ediv m k).symm
      have hq16 : q ≤ 16 := by rw [← HQ.out]; exact Nat.le_trans (Nat.div_le_self i k) (by omega)
      have hm16 : m ≤ 16 := by omega
      clear hseg hmd
      by_cases hpar : q % 2 = 0
      · have e4 : (q : Int) % 2 = 0 := by omega
        have e5 : (m : Int) + (k : Int) = (sv : Int) := by rw [hsv, if_pos hpar]; omega
        clear hsv hmk hpar
        go_wp2_with fail
        refine C.out.mono ?_
        rintro e w2 ⟨rfl, z, rfl⟩
        clear e1 e2 e3 e4 e5
        go_wp2_with (at_builtin; refine wpList_app_ints rfl (.tmp 53) (.tmp 61) rfl _ w.heap.size A c ds rfl _ _ [r] rfl ((HC.out.own.drewN z).alloc _) (one_new _ _) (by simp; omega) (by simp; omega) (by simp) ?_; intro v w3 hA)
        obtain ⟨⟨A', c', rfl, hown⟩, hg, hbel⟩ := hA
        have HO3 := Lib.hid hown
        have HB3 : Hid (Below w.heap.size w w3) := ((below_drewN HC.out.below z).alloc (by simp; omega) _).trans hbel
        clear hown hg hbel
        go_wp2
        go_roundw
        case rel => exact ⟨A', c', ds ++ [r], 2 * k, f, rfl, by go_num, HO3.out, HB3.out, HREST.out, by omega, by rw [List.length_append]; simp; omega⟩
        case measure => simp [intOf]; omega
      · have e4 : ((q : Int) % 2 == 0) = false := by simp; omega
        have hkm := hmk hpar
        have e5 : (m : Int) - (k : Int) = (sv : Int) := by rw [hsv, if_neg hpar]; omega
        clear hsv hmk hpar
        go_wp2_with fail
        refine C.out.mono ?_
        rintro e w2 ⟨rfl, z, rfl⟩
        clear e1 e2 e3 e4 e5
        go_wp2_with (at_builtin; refine wpList_app_ints rfl (.tmp 53) (.tmp 61) rfl _ w.heap.size A c ds rfl _ _ [r] rfl ((HC.out.own.drewN z).alloc _) (one_new _ _) (by simp; omega) (by simp; omega) (by simp) ?_; intro v w3 hA)
        obtain ⟨⟨A', c', rfl, hown⟩, hg, hbel⟩ := hA
        have HO3 := Lib.hid hown
        have HB3 : Hid (Below w.heap.size w w3) := ((below_drewN HC.out.below z).alloc (by simp; omega) _).trans hbel
        clear hown hg hbel
        go_wp2
        go_roundw
        case rel => exact ⟨A', c', ds ++ [r], 2 * k, f, rfl, by go_num, HO3.out, HB3.out, HREST.out, by omega, by rw [List.length_append]; simp; omega⟩
        case measure => simp [intOf]; omega
    · have hS : ds = sibSGo pairZ 0 zs i size 5 1 := by
        have := HC.out.rest
        rw [sibS_stop hlt, List.append_nil] at this
        exact this
      have hdl : ds.length ≤ 5 := by omega
      have HPS : Hid (ds ++ coverP pairZ 0 zs ((placesGo 17 0 n).filter fun p => p.1 != at_) = proofS pairZ 0 zs i) := by
        show _ = _
        unfold proofS
        rw [HN.out, HSZ.out, HAT.out, ← hS]
        rfl
      clear hS
      go_wp2
      go_loopw [5, 11] (fun x kk w' => ∃ (A : Option Addr) (c : Nat) (es : List Int) (s f : Nat), s ≤ n ∧ x = .slice A es.length c ∧ kk = .int .i64 (s : Int) ∧ OutAt w zs i n at_ A c es s f w') (fun _ kk _ => n - (intOf kk).toNat)
      case atStart =>
        refine ⟨A, c, ds, 0, 17, by omega, rfl, rfl, ?_⟩
        exact ⟨HC.out.own, HC.out.below, HPS.out, by omega, by omega⟩
      case round =>
        obtain ⟨A1, c1, es, s, f1, hs, rfl, rfl, hE⟩ := hrel
        have HE := Lib.hid hE
        clear hE
        by_cases hsn : s < n
        · obtain ⟨f1, rfl⟩ : ∃ f', f1 = f' + 1 := by
            cases f1 with
            | zero => have := HE.out.fuel; omega
            | succ f => exact ⟨f, rfl⟩
          obtain ⟨z, HZ⟩ : ∃ z, Hid (sizeAt s (n - s) = z) := ⟨_, rfl⟩
          have hz1 : 1 ≤ z := by rw [← HZ.out]; exact sizeAt_pos _ _
          have hz2 : z ≤ n - s := by rw [← HZ.out]; exact sizeAt_le _ _ (by omega)
          have hes : es.length ≤ 21 := by have := HE.out.short; omega
          by_cases hat : s = at_
          · subst hat
            have HREST : Hid (es ++ coverP pairZ 0 zs ((placesGo f1 (s + z) n).filter fun p => p.1 != s) = proofS pairZ 0 zs i) := by
              show _ = _
              rw [← HE.out.rest, placesGo_step hsn, HZ.out, List.filter_cons_of_neg (by simp)]
            have hne : ((s : Int) != (s : Int)) = false := by simp
            go_wp2_with fail
            refine (ssize_any s n _ (by omega) (by omega)).mono ?_
            rintro e w' ⟨rfl, rfl⟩
            rw [HZ.out]
            go_wp2
            go_roundw
            case rel => exact ⟨A1, c1, es, s + z, f1, by omega, rfl, by go_num, HE.out.own, HE.out.below, HREST.out, by have := HE.out.fuel; omega, by have := HE.out.short; omega⟩
            case measure => simp [intOf]; omega
          · have hne : ((s : Int) != (at_ : Int)) = true := by rw [bne_iff_ne]; omega
            have hseg : (segG zs s z).length = z := segG_length zs s z (by rw [HN.out]; omega)
            obtain ⟨r, HR⟩ : ∃ r, Hid (rootG pairZ 0 4 (segG zs s z) = r) := ⟨_, rfl⟩
            have C : Hid (Calls Tryd.prog 33 #[.slice (some ⟨b, o + s, none⟩) z (cap - s)] wr fun e w' => e = .returned (.int .i64 r) ∧ ∃ q, w' = World.drewN wr q) := by
              have hp := ((HI.out.part s z rfl).below HE.out.below (Nat.le_refl _)).more HE.out.below.size
              have := sroot_go 4 (segG zs s z) b (o + s) (cap - s) _ hp (by omega) (by omega) (by omega) (by omega) (by unfold maxLen; omega) (HD.out.seg s z)
              rw [hseg, HR.out] at this
              exact this
            have HREST : Hid ((es ++ [r]) ++ coverP pairZ 0 zs ((placesGo f1 (s + z) n).filter fun p => p.1 != at_) = proofS pairZ 0 zs i) := by
              show _ = _
              rw [← HE.out.rest, placesGo_step hsn, HZ.out, List.filter_cons_of_pos (by simp; exact hat), coverP_cons, HR.out, List.append_assoc]
              rfl
            have hb0 : w.heap.size ≤ wr.heap.size := HE.out.below.size
            have hi1 : (s : Int) ≤ (s : Int) + (z : Int) := by omega
            have hi2 : (s : Int) + (z : Int) ≤ (cap : Int) := by omega
            have hnc : ¬ cap = s := by omega
            clear hseg
            go_wp2_with fail
            refine (ssize_any s n _ (by omega) (by omega)).mono ?_
            rintro e w' ⟨rfl, rfl⟩
            rw [HZ.out]
            go_wp2_with fail
            refine C.out.mono ?_
            rintro e w2 ⟨rfl, q, rfl⟩
            go_wp2_with (at_builtin; refine wpList_app_ints rfl (.tmp 74) (.tmp 84) rfl _ w.heap.size A1 c1 es rfl _ _ [r] rfl ((HE.out.own.drewN q).alloc _) (one_new _ _) (by simp; omega) (by simp; omega) (by simp) ?_; intro v w3 hA)
            obtain ⟨⟨A', c', rfl, hown⟩, hg, hbel⟩ := hA
            have HO3 := Lib.hid hown
            have HB3 : Hid (Below w.heap.size w w3) := ((below_drewN HE.out.below q).alloc (by simp; omega) _).trans hbel
            clear hown hg hbel
            go_wp2_with fail
            refine (ssize_any s n _ (by omega) (by omega)).mono ?_
            rintro e w' ⟨rfl, rfl⟩
            rw [HZ.out]
            go_wp2
            go_roundw
            case rel => exact ⟨A', c', es ++ [r], s + z, f1, by omega, by simp, by go_num, HO3.out, HB3.out, HREST.out, by have := HE.out.fuel; omega, by have := HE.out.short; rw [List.length_append]; simp; omega⟩
            case measure => simp [intOf]; omega
        · have HF : Hid (es = proofS pairZ 0 zs i) := by
            show _ = _
            rw [← HE.out.rest, placesGo_stop hsn]
            simp [coverP]
          go_wp2
          go_ret
          refine ⟨A1, c1, ?_, ?_, HE.out.below⟩
          · rw [← HF.out]; rfl
          · rw [← HF.out]; exact HE.out.own

set_option maxHeartbeats 1000000 in
theorem sproof_no (zs : List Int) (A : Option Addr) (cap : Nat) (i : Int) (w : World) (hI : IntsAt w w.heap.size A zs) (hmax : zs.length ≤ maxLen) (hno : ¬ (leavesB zs = true ∧ 0 ≤ i ∧ i < zs.length)) :
    Calls Tryd.prog 10 #[.slice A zs.length cap, .int .i64 i] w (RetInts w []) := by
  have HI := Lib.hid hI
  have HM := Lib.hid hmax
  have HNO := Lib.hid hno
  unfold maxLen at hmax
  clear hI hno
  cases hv : leavesB zs with
  | true =>
    have HV := Lib.hid hv
    have HMO : Hid (¬ (0 ≤ i ∧ i ≤ (zs.length : Int) - 1)) := fun h => HNO.out ⟨hv, h.1, by omega⟩
    clear hv
    go_enter Tryd.func10, Tryd.ntmps10
    go_wp2_with fail
    refine (sdigs_any _ _ zs _ (HI.out.allocS _) HM.out).mono ?_
    rintro e w' ⟨rfl, rfl⟩
    rw [HV.out]
    go_wp2_with fail
    refine (in_no _ _ _ _ HMO.out).mono ?_
    rintro e w' ⟨rfl, rfl⟩
    go_wp2
    go_ret
    exact ⟨_, _, rfl, OwnInts.new w, (Below.refl _ _).alloc (Nat.le_refl _) _⟩
  | false =>
    have HV := Lib.hid hv
    clear hv
    go_enter Tryd.func10, Tryd.ntmps10
    go_wp2_with fail
    refine (sdigs_any _ _ zs _ (HI.out.allocS _) HM.out).mono ?_
    rintro e w' ⟨rfl, rfl⟩
    rw [HV.out]
    go_wp2
    go_ret
    exact ⟨_, _, rfl, OwnInts.new w, (Below.refl _ _).alloc (Nat.le_refl _) _⟩

theorem sproof_any (zs : List Int) (i : Int) (b o cap : Nat) (w : World) (hI : IntsAt w w.heap.size (some ⟨b, o, none⟩) zs) (hcap : zs.length ≤ cap) (hmax : cap ≤ maxLen) :
    Calls Tryd.prog 10 #[.slice (some ⟨b, o, none⟩) zs.length cap, .int .i64 i] w (RetInts w (proofOr zs i)) := by
  by_cases h : leavesB zs = true ∧ 0 ≤ i ∧ i < zs.length
  · obtain ⟨k, rfl⟩ := Int.eq_ofNat_of_zero_le h.2.1
    rw [proofOr_yes h.1 (by omega), ← proof_same zs k (leavesB_yes h.1).1 (by omega)]
    exact sproof_yes zs b o cap k w hI hcap hmax h.1 (by omega)
  · rw [proofOr_no h]
    exact sproof_no zs _ cap i w hI (Nat.le_trans hcap hmax) h
theorem proofOr_short (zs : List Int) (i : Int) : (proofOr zs i).length ≤ 6 := by
  by_cases h : leavesB zs = true ∧ 0 ≤ i ∧ i < zs.length
  · obtain ⟨k, rfl⟩ := Int.eq_ofNat_of_zero_le h.2.1
    have h16 := (leavesB_yes h.1).1
    rw [proofOr_yes h.1 (by omega), proofZ_length zs k h16 (by omega)]
    exact proofLen_le h16 (by omega)
  · rw [proofOr_no h]; simp

end Go.Proofs.YtlkgadgjcjpdcaaDoor
