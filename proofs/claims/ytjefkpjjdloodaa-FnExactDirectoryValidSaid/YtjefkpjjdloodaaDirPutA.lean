/- Contract of the array's put: it answers as the data say. Conditions: the array of a valid directory lies in memory, the node and the time are valid. -/
import Derived.Test.YtjefkpjjdloodaaDirList
namespace Go.Proofs.Ytjefkpjjdloodaa
open Go.RowKit
set_option linter.unusedVariables false
set_option maxHeartbeats 4000000 in
set_option maxRecDepth 100000 in
theorem put_any (B g : Nat) (xs : List LD) (node now : Int) (w : World) (hA : DirAt w g xs) (hi : putIn xs node now = true) (hB : B ≤ g) :
    Calls Try.prog 30 #[.pointer (some ⟨g, 0, none⟩), .int .i64 node, .int .i64 now] w fun e w' => e = .returned (.bool (putO xs node now)) ∧ DirAt w' g (putL xs node now) ∧ Below B w w' := by
  have HA := Lib.hid hA
  have HLT : g < w.heap.size := hA.lt
  have hq := (putIn_iff xs node now).1 hi
  have HD := Lib.hid hq.1
  have HNW := Lib.hid hq.2.2
  have HND := Lib.hid hq.2.1
  have hn0 : 0 ≤ node := hq.2.1.1
  have hn9 : node < 100 := by have := hq.2.1.2; omega
  have HI := Lib.hid hi
  obtain ⟨nn, hnn⟩ : ∃ m : Nat, node = (m : Int) := ⟨node.toNat, by omega⟩
  subst hnn
  have hnl : nn < 100 := by omega
  clear hA hi hq
  have c0 := arr_cell HA.out nn hnl
  obtain ⟨v, HV⟩ : ∃ v, Hid (timeB xs (nn : Int) = v) := ⟨_, rfl⟩
  rw [show tmF xs nn = v from HV.out] at c0
  cases hk : hasN xs (nn : Int) with
  | true =>
    have HK := Lib.hid hk
    have HO : Hid (putO xs (nn : Int) now = true) := putO_has HI.out hk
    have HL : Hid (putL xs (nn : Int) now = setL xs (nn : Int) now) := putL_has HI.out hk
    have HS := Lib.hid (arrT_set HD.out hk HNW.out)
    rw [HV.out] at HS
    have hv : Hid (v ≠ -1) := fun e => by
      obtain ⟨x, hx, e2⟩ := (hasN_iff xs nn).1 hk
      have h1 := timeB_mem HD.out hx
      rw [e2, HV.out, e] at h1
      have := (HD.out.ok x hx).2.1
      omega
    have hne : (v != -1) = true := bne_iff_ne.2 hv.out
    have HX : Hid (Blk (w.setCell ⟨g, nn, none⟩ (.int .i64 (if v < now then now else v))).drew g 47 (arrT (setL xs (nn : Int) now))) := by
      have := HA.out.setOwn nn (.int .i64 (if v < now then now else v))
      rw [Int.toNat_natCast] at HS
      rw [show (if v < now then now else v) = max v now by split <;> omega, HS.out] at this
      rw [show (if v < now then now else v) = max v now by split <;> omega]
      exact this
    have HBX : Hid (Below B w (w.setCell ⟨g, nn, none⟩ (.int .i64 (if v < now then now else v))).drew) := below_drew ((Below.refl _ _).setCell (p := ⟨g, nn, none⟩) hB _)
    rw [HO.out, HL.out]
    clear hk
    have f0 := blk_frozen HA.out nn
    by_cases hvn : v < now
    · rw [if_pos hvn] at HX HBX
      go_enter Try.func30, Try.ntmps30
      go_wp2_with fail
      go_region
      go_wp2
      go_ret
      exact ⟨rfl, HX.out, HBX.out⟩
    · rw [if_neg hvn] at HX HBX
      go_enter Try.func30, Try.ntmps30
      go_wp2_with fail
      go_region
      go_wp2
      go_ret
      exact ⟨rfl, HX.out, HBX.out⟩
  | false =>
    have hno := Lib.hid (not_has hk)
    have hv : v = -1 := by rw [← HV.out]; exact timeB_no hno.out
    subst hv
    have hne : ((-1 : Int) != -1) = false := rfl
    have hlt : (-1 : Int) < now := by have := HNW.out.1; omega
    have HK := Lib.hid hk
    clear hk
    have HXS : Hid (∀ (ys : List LD) (W : World), Blk W g 47 (arrT ys) → DirP ys → ys.length < 8 → (∀ x ∈ ys, x.n ≠ (nn : Int)) → Blk (W.setCell ⟨g, nn, none⟩ (.int .i64 now)).drew g 47 (arrT (insL ys (nn : Int) now))) := fun ys W h1 h2 h3 h4 => by
      have := h1.setOwn nn (.int .i64 now)
      have HS := arrT_ins (now := now) h2 h3 h4 HND.out HNW.out
      rw [Int.toNat_natCast] at HS
      rw [HS] at this
      exact this
    have HCS : Hid (∀ (ys : List LD) (W : World), Blk W g 47 (arrT ys) → (∀ x ∈ ys, x.n ≠ (nn : Int)) → W.cell? ⟨g, nn, none⟩ = some (.int .i64 (-1))) := fun ys W h1 h4 => by
      have := arr_cell h1 nn hnl
      rwa [show tmF ys nn = -1 from timeB_no h4] at this
    have C1 := Lib.hid (full_any g xs w HA.out HD.out)
    by_cases h8 : xs.length = 8
    · have HBL : Hid (baseL xs now = sweepL now xs) := by show _ = _; unfold baseL; rw [if_pos (by omega)]
      have HDS := Lib.hid (HD.out.sub (sweep_sub now xs))
      have hnoS : Hid (∀ x ∈ sweepL now xs, x.n ≠ (nn : Int)) := fun x hx => hno.out x (mem_sweep.1 hx).1
      rw [decide_eq_true h8] at C1
      clear h8
      by_cases h9 : (sweepL now xs).length = 8
      · have HO : Hid (putO xs (nn : Int) now = false) := putO_full HK.out (by rw [HBL.out]; omega)
        have HL : Hid (putL xs (nn : Int) now = sweepL now xs) := by rw [← HBL.out]; exact putL_full HI.out HK.out (by rw [HBL.out]; omega)
        rw [HO.out, HL.out]
        go_enter Try.func30, Try.ntmps30
        go_wp2_with fail
        refine C1.out.mono ?_
        rintro e w1 ⟨rfl, hb1⟩
        have HB1 := Lib.hid hb1
        have HA1 := Lib.hid (HA.out.below hb1 HLT)
        clear hb1
        go_wp2_with fail
        refine (sweep_any B g xs now w1 HA1.out HD.out HNW.out.1 hB).mono ?_
        rintro e w2 ⟨rfl, hA2, hb2⟩
        have HB2 : Hid (Below B w w2) := (HB1.out.mono (by omega)).trans hb2
        have HA2 := Lib.hid hA2
        have HLT2 : g < w2.heap.size := hA2.lt
        clear hA2 hb2
        have C2 := Lib.hid (full_any g _ w2 HA2.out HDS.out)
        rw [decide_eq_true h9] at C2
        clear h9
        go_wp2_with fail
        refine C2.out.mono ?_
        rintro e w3 ⟨rfl, hb3⟩
        have HB3 : Hid (Below B w w3) := HB2.out.trans (hb3.mono (by omega))
        have HA3 := Lib.hid (HA2.out.below hb3 HLT2)
        clear hb3
        go_wp2
        go_ret
        exact ⟨rfl, HA3.out, HB3.out⟩
      · have h10 : (sweepL now xs).length < 8 := by have := HDS.out.len; omega
        have HO : Hid (putO xs (nn : Int) now = true) := putO_ins HI.out (by rw [HBL.out]; omega)
        have HL : Hid (putL xs (nn : Int) now = insL (sweepL now xs) (nn : Int) now) := by rw [← HBL.out]; exact putL_ins HI.out HK.out (by rw [HBL.out]; omega)
        have H10 := Lib.hid h10
        rw [HO.out, HL.out]
        go_enter Try.func30, Try.ntmps30
        go_wp2_with fail
        refine C1.out.mono ?_
        rintro e w1 ⟨rfl, hb1⟩
        have HB1 := Lib.hid hb1
        have HA1 := Lib.hid (HA.out.below hb1 HLT)
        clear hb1
        go_wp2_with fail
        refine (sweep_any B g xs now w1 HA1.out HD.out HNW.out.1 hB).mono ?_
        rintro e w2 ⟨rfl, hA2, hb2⟩
        have HB2 : Hid (Below B w w2) := (HB1.out.mono (by omega)).trans hb2
        have HA2 := Lib.hid hA2
        have HLT2 : g < w2.heap.size := hA2.lt
        clear hA2 hb2
        have C2 := Lib.hid (full_any g _ w2 HA2.out HDS.out)
        rw [decide_eq_false h9] at C2
        clear h9 h10
        go_wp2_with fail
        refine C2.out.mono ?_
        rintro e w3 ⟨rfl, hb3⟩
        have HB3 : Hid (Below B w w3) := HB2.out.trans (hb3.mono (by omega))
        have HA3 := Lib.hid (HA2.out.below hb3 HLT2)
        have HX := Lib.hid (HXS.out _ w3 HA3.out HDS.out H10.out hnoS.out)
        have HBX : Hid (Below B w (w3.setCell ⟨g, nn, none⟩ (.int .i64 now)).drew) := below_drew (HB3.out.setCell (p := ⟨g, nn, none⟩) hB _)
        have c3 := HCS.out _ w3 HA3.out hnoS.out
        have f3 := blk_frozen HA3.out nn
        clear hb3
        go_wp2_with fail
        go_region
        go_wp2
        go_ret
        exact ⟨rfl, HX.out, HBX.out⟩
    · have h10 : xs.length < 8 := by have := HD.out.len; omega
      have HBL : Hid (baseL xs now = xs) := by show _ = _; unfold baseL; rw [if_neg (by omega)]
      have HO : Hid (putO xs (nn : Int) now = true) := putO_ins HI.out (by rw [HBL.out]; omega)
      have HL : Hid (putL xs (nn : Int) now = insL xs (nn : Int) now) := by have := putL_ins HI.out HK.out (by rw [HBL.out]; omega); rwa [HBL.out] at this
      have H10 := Lib.hid h10
      have H8 := Lib.hid h8
      rw [decide_eq_false h8] at C1
      rw [HO.out, HL.out]
      clear h8 h10
      go_enter Try.func30, Try.ntmps30
      go_wp2_with fail
      refine C1.out.mono ?_
      rintro e w1 ⟨rfl, hb1⟩
      have HB1 := Lib.hid hb1
      have HA1 := Lib.hid (HA.out.below hb1 HLT)
      have HLT1 : g < w1.heap.size := HA1.out.lt
      clear hb1
      have C2 := Lib.hid (full_any g _ w1 HA1.out HD.out)
      rw [decide_eq_false H8.out] at C2
      go_wp2_with fail
      refine C2.out.mono ?_
      rintro e w3 ⟨rfl, hb3⟩
      have HB3 : Hid (Below B w w3) := (HB1.out.mono (by omega)).trans (hb3.mono (by omega))
      have HA3 := Lib.hid (HA1.out.below hb3 HLT1)
      have HX := Lib.hid (HXS.out _ w3 HA3.out HD.out H10.out hno.out)
      have HBX : Hid (Below B w (w3.setCell ⟨g, nn, none⟩ (.int .i64 now)).drew) := below_drew (HB3.out.setCell (p := ⟨g, nn, none⟩) hB _)
      have c3 := HCS.out _ w3 HA3.out hno.out
      have f3 := blk_frozen HA3.out nn
      clear hb3
      go_wp2_with fail
      go_region
      go_wp2
      go_ret
      exact ⟨rfl, HX.out, HBX.out⟩
end Go.Proofs.Ytjefkpjjdloodaa
