/- Contract of TreeGrowthCheck: it reports whether a proof of growth is right. Condition: the proof lies in memory. -/
import Derived.Test.YtajiciapiopjcaaMerge
import Derived.Test.YtajiciapiopjcaaConcat
namespace Go.Proofs.Ytajiciapiopjcaa
open Go.RowKit
set_option linter.unusedVariables false

def growB (m n : Nat) (old digest : Int) (proof : List Int) : Bool :=
  decide (proof.length = (growSizes m n).length) && (decide (foldZ m (proof.take (sizesOf 0 m).length) = old) && decide (foldZ n (mergeZ (growSizes m n) proof) = digest))
def growOkB (m old n digest : Int) (proof : List Int) : Bool :=
  decide (0 ≤ n ∧ n ≤ 16 ∧ 0 ≤ m ∧ m ≤ n) && (digB proof && growB m.toNat n.toNat old digest proof)
theorem growOkB_yes {m n : Nat} {old digest : Int} {proof : List Int} (hn : n ≤ 16) (hm : m ≤ n) (hd : digB proof = true) : growOkB m old n digest proof = growB m n old digest proof := by
  unfold growOkB
  rw [hd, decide_eq_true (show (0 : Int) ≤ n ∧ (n : Int) ≤ 16 ∧ (0 : Int) ≤ m ∧ (m : Int) ≤ n from ⟨by omega, by omega, by omega, by omega⟩)]
  rfl
theorem growOkB_no {m n : Int} {old digest : Int} {proof : List Int} (h : ¬ (0 ≤ n ∧ n ≤ 16 ∧ 0 ≤ m ∧ m ≤ n)) : growOkB m old n digest proof = false := by
  unfold growOkB; rw [decide_eq_false h]; rfl
theorem growOkB_nod {m n : Int} {old digest : Int} {proof : List Int} (h : digB proof = false) : growOkB m old n digest proof = false := by
  unfold growOkB; rw [h]; simp
def sumN : List Nat → Nat
  | [] => 0
  | a :: l => a + sumN l
theorem look_sum : allMN (fun m n => decide (sumN (growSizes m n) = n)) = true := by decide +kernel
theorem tot_zip : ∀ (ss : List Nat) (rs : List Int), rs.length = ss.length → totS (ss.zip rs) = sumN ss := by
  intro ss
  induction ss with
  | nil => intro rs h; rfl
  | cons s ss ih =>
    intro rs h
    cases rs with
    | nil => simp at h
    | cons r rs => show s + totS (ss.zip rs) = s + sumN ss; rw [ih rs (by simpa using h)]
theorem map_zip : ∀ (ss : List Nat) (rs : List Int), rs.length = ss.length → (ss.zip rs).map (·.2) = rs := by
  intro ss
  induction ss with
  | nil => intro rs h; have : rs = [] := List.eq_nil_of_length_eq_zero (by simpa using h)
           subst this; rfl
  | cons s ss ih =>
    intro rs h
    cases rs with
    | nil => simp at h
    | cons r rs => show r :: (ss.zip rs).map (·.2) = r :: rs; rw [ih rs (by simpa using h)]
theorem digs_zip (ss : List Nat) (rs : List Int) (h : Digs rs) : DigsP (ss.zip rs) := fun p hp => h p.2 (List.of_mem_zip (a := p.1) (b := p.2) hp).2
theorem mergeGo_digs : ∀ (ts st : List (Nat × Int)), DigsP st → DigsP ts → DigsP (mergeGo pairZ st ts) := by
  intro ts
  induction ts with
  | nil => intro st hs _; cases st <;> exact hs
  | cons p ts ih =>
    intro st hs ht
    obtain ⟨s, t⟩ := p
    show DigsP (mergeGo pairZ (pushG pairZ st s t) ts)
    exact ih _ (pushG_digs st s t hs (ht (s, t) (by simp))) (fun q hq => ht q (List.mem_cons_of_mem _ hq))
theorem mergeGo_length : ∀ (ts st : List (Nat × Int)), (mergeGo pairZ st ts).length ≤ st.length + ts.length := by
  intro ts
  induction ts with
  | nil => intro st; cases st <;> simp [mergeGo]
  | cons p ts ih =>
    intro st
    obtain ⟨s, t⟩ := p
    show (mergeGo pairZ (pushG pairZ st s t) ts).length ≤ _
    have h1 := ih (pushG pairZ st s t)
    have h2 := pushG_length st s t
    simp
    omega
theorem natsZ_append (a b : List Nat) : natsZ (a ++ b) = natsZ a ++ natsZ b := List.map_append
theorem mergeZ_digs (ss : List Nat) (rs : List Int) (h : Digs rs) : Digs (mergeZ ss rs) := by
  intro x hx
  unfold mergeZ mergeG at hx
  rw [List.mem_reverse] at hx
  obtain ⟨p, hp, rfl⟩ := List.mem_map.1 hx
  exact mergeGo_digs _ _ (fun q hq => by cases hq) (digs_zip ss rs h) p hp

set_option maxHeartbeats 4000000 in
set_option maxRecDepth 100000 in
theorem gcheck_yes (m n : Nat) (old digest : Int) (A : Option Addr) (cap : Nat) (zs : List Int) (w : World) (hI : IntsAt w w.heap.size A zs) (hcap : zs.length ≤ cap) (hmax : cap ≤ maxLen) (hn : n ≤ 16) (hm : m ≤ n) (hd : digB zs = true) :
    Calls Try.prog 17 #[.int .i64 (m : Int), .int .i64 old, .int .i64 (n : Int), .int .i64 digest, .slice A zs.length cap] w fun e w' => e = .returned (.bool (growB m n old digest zs)) ∧ Below w.heap.size w w' := by
  have HI := Lib.hid hI
  have HM := Lib.hid (Nat.le_trans hcap hmax)
  have HD := Lib.hid hd
  have HDD := Lib.hid (digB_yes hd)
  have hzl : zs.length ≤ 9223372036854775807 := by have := Nat.le_trans hcap hmax; unfold maxLen at this; omega
  have hl9 := growSizes_le hn hm
  obtain ⟨S1, HS1⟩ : ∃ l, Hid (sizesOf 0 m = l) := ⟨_, rfl⟩
  obtain ⟨S2, HS2⟩ : ∃ l, Hid (sizesOf m n = l) := ⟨_, rfl⟩
  obtain ⟨SS, HSS⟩ : ∃ l, Hid (S1 ++ S2 = l) := ⟨_, rfl⟩
  have HGS : Hid (growSizes m n = SS) := by show _ = _; unfold growSizes; rw [HS1.out, HS2.out, HSS.out]
  rw [HGS.out] at hl9
  have hl1 : S1.length ≤ SS.length := by rw [← HSS.out, List.length_append]; omega
  have hl2 : S2.length ≤ SS.length := by rw [← HSS.out, List.length_append]; omega
  have hi1 : ¬ ((n : Int) < 0) := by omega
  have hi2 : ¬ ((16 : Int) < (n : Int)) := by omega
  have hi3 : ¬ ((m : Int) < 0) := by omega
  have hi4 : ¬ ((n : Int) < (m : Int)) := by omega
  clear hI hcap hmax hd
  go_enter Try.func17, Try.ntmps17
  go_wp2_with fail
  refine (are_any _ _ zs _ HI.out HM.out).mono ?_
  rintro e w' ⟨rfl, rfl⟩
  rw [HD.out]
  go_wp2_with fail
  refine (sizes_any 0 m _ (by omega) (by omega)).mono ?_
  rintro e w1 ⟨A1, c1, rfl, hown1, hb1⟩
  rw [HS1.out] at hown1 ⊢
  rw [natsZ_length]
  have HO1 := Lib.hid hown1
  have HB1 := Lib.hid hb1
  clear hown1 hb1
  go_wp2_with fail
  refine (sizes_any m n _ hn hm).mono ?_
  rintro e w2 ⟨A2, c2, rfl, hown2, hb2⟩
  rw [HS2.out] at hown2 ⊢
  rw [natsZ_length]
  have HO2 := Lib.hid hown2
  have HO12 := Lib.hid (HO1.out.below hb2)
  have HB2 : Hid (Below w.heap.size w w2) := HB1.out.trans (hb2.mono HB1.out.size)
  clear hown2 hb2
  obtain ⟨V, HV⟩ : ∃ V, Hid (w2.alloc (.cells #[.slice A1 S1.length c1, .slice A2 S2.length c2] 23) = V) := ⟨_, rfl⟩
  have HBV : Hid (Below w.heap.size w V) := by
    show Below _ _ _
    rw [← HV.out]
    exact HB2.out.alloc HB2.out.size _
  have C : Hid (Calls Try.prog 40 #[.slice (some ⟨w2.heap.size, 0, none⟩) 2 2] V (RetInts V (natsZ SS))) := by
    show Calls _ _ _ _ _
    rw [← HV.out, ← HSS.out, natsZ_append]
    have hb := Blk.new w2 23 #[.slice A1 S1.length c1, .slice A2 S2.length c2]
    refine concat_two A1 c1 (natsZ S1) A2 c2 (natsZ S2) w2.heap.size _ (HO12.out.ints.allocS _) (HO2.out.ints.allocS _) HO12.out.none0 HO2.out.none0 (by rw [natsZ_length]; omega) (by rw [natsZ_length]; omega) ?_ ?_
    · rw [natsZ_length]; exact hb.cell 0
    · rw [natsZ_length]; exact hb.cell 1
  go_wp2_with fail
  rw [HV.out]
  refine C.out.mono ?_
  rintro e w3 ⟨A3, c3, rfl, hown3, hb3⟩
  have HO3 := Lib.hid hown3
  have HB3 : Hid (Below w.heap.size w w3) := HBV.out.trans (hb3.mono HBV.out.size)
  clear hown3 hb3
  rw [natsZ_length]
  by_cases hlen : zs.length = SS.length
  · have hlb : ((zs.length : Int) != (SS.length : Int)) = false := by simp [hlen]
    have HLE := Lib.hid hlen
    clear hlen
    go_wp2_with fail
    refine (knowns_any A3 c3 SS A cap zs _ HO3.out.ints (HI.out.belowS HB3.out) HLE.out (by omega)).mono ?_
    rintro e w4 ⟨A4, c4, gs, rfl, hown4, hnd4, hb4⟩
    have HO4 := Lib.hid hown4
    have HN4 := Lib.hid hnd4
    have HB4 : Hid (Below w.heap.size w w4) := HB3.out.trans (hb4.mono HB3.out.size)
    clear hown4 hnd4 hb4
    have hgs : gs.length = SS.length := by rw [HN4.out.same, List.length_zip, HLE.out]; omega
    have HGL := Lib.hid hgs
    rw [hgs]
    have hcl := HO4.out.le
    have hc1 : SS.length ≤ c4 := by rw [← hgs]; exact hcl.1
    have hc2 := hcl.2
    unfold maxLen at hc2
    clear hgs hcl
    have hki : (S1.length : Int) ≤ (SS.length : Int) := by omega
    have hki2 : (S1.length : Int) ≤ (c4 : Int) := by omega
    have hki3 : (SS.length : Int) ≤ (c4 : Int) := by omega
    have hlt : (gs.take S1.length).length = S1.length := by rw [List.length_take, HGL.out]; omega
    have HRT : Hid (RootsAt w4 (gs.take S1.length) (zs.take S1.length)) := by
      show RootsAt _ _ _
      have h1 := (HN4.out.cut S1.length).roots
      rw [List.map_take, map_zip SS zs HLE.out] at h1
      exact h1
    obtain ⟨f1, HF1⟩ : ∃ f, Hid (foldZ m (zs.take S1.length) = f) := ⟨_, rfl⟩
    have CP : Hid (Calls Try.prog 37 #[.int .i64 (m : Int), .slice A4 S1.length c4] w4 fun e w' => e = .returned (.int .i64 f1) ∧ w4 = w') := by
      have := peaksD_any (m : Int) A4 c4 (gs.take S1.length) (zs.take S1.length) w4 (HO4.out.ints.first S1.length) (by rw [hlt]; omega) HRT.out (HDD.out.take _) (by omega) (by omega)
      rw [hlt, HF1.out] at this
      exact this
    clear hlt
    go_wp2_with fail
    refine CP.out.mono ?_
    rintro e w' ⟨rfl, rfl⟩
    by_cases hold : f1 = old
    · have hob : (f1 == old) = true := by rw [beq_iff_eq]; exact hold
      have HOLD := Lib.hid hold
      clear hold
      have CM : Hid (Calls Try.prog 42 #[.slice A4 SS.length c4] w4 (RetNodes w4 (mergeGo pairZ [] (SS.zip zs)).reverse)) := by
        have hsum := of_decide_eq_true (allMN_get look_sum hn hm)
        rw [HGS.out] at hsum
        have := merge_any A4 c4 gs (SS.zip zs) w4 HO4.out.ints HN4.out (digs_zip SS zs HDD.out) (by rw [tot_zip SS zs HLE.out, hsum]; omega) (by rw [List.length_zip]; omega)
        rw [HGL.out] at this
        exact this
      go_wp2_with fail
      refine CM.out.mono ?_
      rintro e w5 ⟨A5, c5, gs5, rfl, hown5, hnd5, hb5⟩
      have HO5 := Lib.hid hown5
      have HRM : Hid (RootsAt w5 gs5 (mergeZ SS zs)) := by
        have h1 := hnd5.roots
        rw [List.map_reverse] at h1
        exact h1
      have HB5 : Hid (Below w.heap.size w w5) := HB4.out.trans (hb5.mono HB4.out.size)
      have hg5 : gs5.length ≤ 40 := by
        rw [hnd5.same, List.length_reverse]
        have := mergeGo_length (SS.zip zs) []
        rw [List.length_zip] at this
        simp at this
        omega
      clear hown5 hnd5 hb5
      obtain ⟨f2, HF2⟩ : ∃ f, Hid (foldZ n (mergeZ SS zs) = f) := ⟨_, rfl⟩
      go_wp2_with fail
      refine (peaksD_any (n : Int) A5 c5 gs5 (mergeZ SS zs) _ HO5.out.ints (by omega) HRM.out (mergeZ_digs SS zs HDD.out) (by omega) (by omega)).mono ?_
      rintro e w' ⟨rfl, rfl⟩
      rw [HF2.out]
      have HRES : Hid (growB m n old digest zs = (f2 == digest)) := by
        show _ = _
        unfold growB
        rw [HGS.out, HS1.out, HF1.out, HF2.out, decide_eq_true HLE.out, decide_eq_true HOLD.out]
        simp
        rw [Bool.eq_iff_iff]; simp
      go_wp2
      go_ret
      exact ⟨ret_bool (by rw [HRES.out]), HB5.out⟩
    · have hob : (f1 == old) = false := by rw [beq_eq_false_iff_ne]; exact hold
      have HRES : Hid (growB m n old digest zs = false) := by
        show _ = _
        unfold growB
        rw [HGS.out, HS1.out, HF1.out, decide_eq_false hold]
        simp
      clear hold
      go_wp2
      go_ret
      exact ⟨ret_bool (by rw [HRES.out]), HB4.out⟩
  · have hlb : ((zs.length : Int) != (SS.length : Int)) = true := by rw [bne_iff_ne]; omega
    have HRES : Hid (growB m n old digest zs = false) := by
      show _ = _
      unfold growB
      rw [HGS.out, decide_eq_false hlen]
      rfl
    clear hlen
    go_wp2
    go_ret
    exact ⟨ret_bool (by rw [HRES.out]), HB3.out⟩

set_option maxHeartbeats 1000000 in
theorem gcheck_nod (m n : Nat) (old digest : Int) (A : Option Addr) (cap : Nat) (zs : List Int) (w : World) (hI : IntsAt w w.heap.size A zs) (hcap : zs.length ≤ cap) (hmax : cap ≤ maxLen) (hn : n ≤ 16) (hm : m ≤ n) (hd : digB zs = false) :
    Calls Try.prog 17 #[.int .i64 (m : Int), .int .i64 old, .int .i64 (n : Int), .int .i64 digest, .slice A zs.length cap] w fun e w' => e = .returned (.bool false) ∧ Below w.heap.size w w' := by
  have HI := Lib.hid hI
  have HM := Lib.hid (Nat.le_trans hcap hmax)
  have HD := Lib.hid hd
  have hi1 : ¬ ((n : Int) < 0) := by omega
  have hi2 : ¬ ((16 : Int) < (n : Int)) := by omega
  have hi3 : ¬ ((m : Int) < 0) := by omega
  have hi4 : ¬ ((n : Int) < (m : Int)) := by omega
  clear hI hcap hmax hd
  go_enter Try.func17, Try.ntmps17
  go_wp2_with fail
  refine (are_any _ _ zs _ HI.out HM.out).mono ?_
  rintro e w' ⟨rfl, rfl⟩
  rw [HD.out]
  go_wp2
  go_ret
  exact ⟨rfl, Below.refl _ _⟩

set_option maxHeartbeats 1000000 in
theorem gcheck_no (m n : Int) (old digest : Int) (A : Option Addr) (cap : Nat) (zs : List Int) (w : World) (hno : ¬ (0 ≤ n ∧ n ≤ 16 ∧ 0 ≤ m ∧ m ≤ n)) :
    Calls Try.prog 17 #[.int .i64 m, .int .i64 old, .int .i64 n, .int .i64 digest, .slice A zs.length cap] w fun e w' => e = .returned (.bool false) ∧ Below w.heap.size w w' := by
  by_cases h1 : n < 0
  · clear hno
    go_enter Try.func17, Try.ntmps17
    go_wp2
    go_ret
    exact ⟨rfl, Below.refl _ _⟩
  · by_cases h2 : 16 < n
    · clear hno
      go_enter Try.func17, Try.ntmps17
      go_wp2
      go_ret
      exact ⟨rfl, Below.refl _ _⟩
    · by_cases h3 : m < 0
      · clear hno
        go_enter Try.func17, Try.ntmps17
        go_wp2
        go_ret
        exact ⟨rfl, Below.refl _ _⟩
      · have h4 : n < m := by omega
        clear hno
        go_enter Try.func17, Try.ntmps17
        go_wp2
        go_ret
        exact ⟨rfl, Below.refl _ _⟩

theorem gcheck_any (zs : List Int) (m old n digest : Int) (A : Option Addr) (cap : Nat) (w : World) (hI : IntsAt w w.heap.size A zs) (hcap : zs.length ≤ cap) (hmax : cap ≤ maxLen) :
    Calls Try.prog 17 #[.int .i64 m, .int .i64 old, .int .i64 n, .int .i64 digest, .slice A zs.length cap] w fun e w' => e = .returned (.bool (growOkB m old n digest zs)) ∧ Below w.heap.size w w' := by
  by_cases h : 0 ≤ n ∧ n ≤ 16 ∧ 0 ≤ m ∧ m ≤ n
  · obtain ⟨k, rfl⟩ := Int.eq_ofNat_of_zero_le h.1
    obtain ⟨j, rfl⟩ := Int.eq_ofNat_of_zero_le h.2.2.1
    cases hd : digB zs with
    | true => rw [growOkB_yes (by omega) (by omega) hd]; exact gcheck_yes j k old digest A cap zs w hI hcap hmax (by omega) (by omega) hd
    | false => rw [growOkB_nod hd]; exact gcheck_nod j k old digest A cap zs w hI hcap hmax (by omega) (by omega) hd
  · rw [growOkB_no h]; exact gcheck_no m n old digest A cap zs w h

theorem growthZ_digs (zs : List Int) (k : Nat) (h16 : zs.length ≤ 16) (hd : Digs zs) : Digs (growthZ zs k) := by
  intro x hx
  unfold growthZ growthG at hx
  rcases List.mem_append.1 hx with e | e
  · exact coverZ_digs (zs.take k) 0 (hd.take k) (by rw [List.length_take]; omega) x e
  · exact coverZ_digs zs k hd h16 x e
/-- Growth can be proved. -/
theorem growth_accept (zs : List Int) (k : Nat) (h16 : zs.length ≤ 16) (hk : k ≤ zs.length) (hd : Digs zs) : growOkB (k : Int) (digestZ (zs.take k)) (zs.length : Int) (digestZ zs) (growthZ zs k) = true := by
  rw [growOkB_yes h16 hk (digB_of (growthZ_digs zs k h16 hd))]
  unfold growB
  have hlt : (zs.take k).length = k := by rw [List.length_take]; omega
  rw [decide_eq_true (growth_length zs k h16 hk), growth_first zs k hk, growth_merge zs k h16 hk]
  unfold digestZ
  rw [hlt]
  simp
/-- A proof of growth is for two digests. -/
theorem growOkB_true {m old n digest : Int} {proof : List Int} (h : growOkB m old n digest proof = true) : ∃ j k : Nat, m = j ∧ n = k ∧ k ≤ 16 ∧ j ≤ k ∧ Digs proof ∧ proof.length = (growSizes j k).length ∧ foldZ j (proof.take (sizesOf 0 j).length) = old ∧ foldZ k (mergeZ (growSizes j k) proof) = digest := by
  unfold growOkB growB at h
  simp only [Bool.and_eq_true, decide_eq_true_eq] at h
  obtain ⟨⟨h1, h2, h3, h4⟩, h5, h6, h7, h8⟩ := h
  obtain ⟨k, rfl⟩ := Int.eq_ofNat_of_zero_le h1
  obtain ⟨j, rfl⟩ := Int.eq_ofNat_of_zero_le h3
  rw [Int.toNat_natCast] at h6 h7 h8
  rw [Int.toNat_natCast] at h6 h8
  exact ⟨j, k, rfl, rfl, by omega, by omega, digB_yes h5, h6, h7, h8⟩
theorem growOkB_of {j k : Nat} {old digest : Int} {proof : List Int} (hk : k ≤ 16) (hj : j ≤ k) (hd : Digs proof) (h : growOkB (j : Int) old (k : Int) digest proof = true) : proof.length = (growSizes j k).length ∧ foldZ j (proof.take (sizesOf 0 j).length) = old ∧ foldZ k (mergeZ (growSizes j k) proof) = digest := by
  rw [growOkB_yes hk hj (digB_of hd)] at h
  unfold growB at h
  simp only [Bool.and_eq_true, decide_eq_true_eq] at h
  exact h

end Go.Proofs.Ytajiciapiopjcaa
