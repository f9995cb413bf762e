/- The walk of FnFeedPart: it returns true and changes nothing that was there. Condition: the codes' bytes lie in memory. -/
import Derived.Test.YtgpmodidpdjhkaaDrawFeed
import Derived.Test.YtgpmodidpdjhkaaSFeedValid
namespace Go.Proofs.Ytgpmodidpdjhkaa
open Go.RowKit
set_option linter.unusedVariables false

theorem sth_set (bs : List ByteArray) (k j : Nat) (x : ByteArray) (hk : k < bs.length) : sth (bs.set k x) j = if j = k then x else sth bs j := by
  unfold sth
  rw [List.getD_eq_getElem?_getD, List.getElem?_set, List.getD_eq_getElem?_getD]
  by_cases h : k = j
  · subst h; simp [hk]
  · simp [h, Ne.symm h]
theorem bth_set (hs : List Bool) (k j : Nat) (x : Bool) (hk : k < hs.length) : bth (hs.set k x) j = if j = k then x else bth hs j := by
  unfold bth
  rw [List.getD_eq_getElem?_getD, List.getElem?_set, List.getD_eq_getElem?_getD]
  by_cases h : k = j
  · subst h; simp [hk]
  · simp [h, Ne.symm h]
/-- A block may be forgotten. -/
theorem ok_forget {p l d s : Int} {bs : List ByteArray} {hs : List Bool} (h : FeedOk ⟨p, l, d, s, bs, hs⟩) (k : Nat) (hk : k < bs.length) : okB ⟨p, l, d, s, bs.set k ByteArray.empty, hs.set k false⟩ = true := by
  have hlh : hs.length = bs.length := h.len.2
  refine okB_yes ⟨h.1, h.2.1, ⟨by show ((bs.set k ByteArray.empty).length : Int) = l; rw [List.length_set]; exact h.2.2.1.1, by show ((hs.set k false).length : Int) = l; rw [List.length_set]; exact h.2.2.1.2⟩, ?_, ?_⟩
  · intro j hj
    have hj' : j < bs.length := by have : j < (bs.set k ByteArray.empty).length := hj; rwa [List.length_set] at this
    show (sth (bs.set k ByteArray.empty) j).size ≤ 8 ∧ (sth (bs.set k ByteArray.empty) j = ByteArray.empty ∨ bth (hs.set k false) j = true)
    rw [sth_set bs k j _ hk, bth_set hs k j _ (by omega)]
    by_cases e : j = k
    · rw [if_pos e, if_pos e]; exact ⟨Nat.zero_le _, .inl rfl⟩
    · rw [if_neg e, if_neg e]; exact h.2.2.2.1 j hj'
  · intro e
    have e' : wholeB (hs.set k false) = true := e
    rw [wholeB_no (k := k) (by rw [List.length_set]; omega) (by rw [bth_set hs k k _ (by omega), if_pos rfl])] at e'
    cases e'
theorem owns_some {w : World} {base : Nat} {A : Option Addr} {c : Nat} {bs : List ByteArray} (h : OwnStrs w base A c bs) (hn : 0 < bs.length) : ∃ y, A = some ⟨y, 0, none⟩ := by
  rcases owns_form h with hn' | h'
  · obtain ⟨b, o, e, _⟩ := h.ints hn
    rw [hn'] at e; cases e
  · exact h'
theorem ownb_some {w : World} {base : Nat} {A : Option Addr} {c : Nat} {bs : List Bool} (h : OwnBools w base A c bs) (hn : 0 < bs.length) : ∃ y, A = some ⟨y, 0, none⟩ := by
  rcases ownb_form h with hn' | h'
  · obtain ⟨b, o, e, _⟩ := h.ints hn
    rw [hn'] at e; cases e
  · exact h'

set_option maxHeartbeats 4000000 in
set_option maxRecDepth 100000 in
theorem walkFeedPart (A : Option Addr) (len cap : Nat) (A9 : Option Addr) (len1 cap1 : Nat) (w : World) (hI : In w A len cap) (hI1 : In w A9 len1 cap1) :
    Calls Try.prog 5 #[.slice A len cap, .slice A9 len1 cap1] w fun e w' => e = .returned (.bool true) ∧ Below w.heap.size w w' := by
  have hm := hI.len_le
  have hm1 := hI1.len_le
  unfold maxLen at hm hm1
  have HI := Lib.hid hI
  clear hI hI1
  by_cases hlen : len ≤ 1048576
  · by_cases hlen1 : len1 ≤ 1048576
    · go_enter Try.func5, Try.ntmps5
      go_wp2_with fail
      refine (drawFeedValid_any A len cap _ HI.out).mono ?_
      rintro e w1 ⟨p, l, d, s, A1, c1, A2, c2, bs, hs, rfl, ho1, hlb, hlh, hb1⟩
      have HB1 := Lib.hid hb1
      have HF := Lib.hid ho1.at_
      have HNC := Lib.hid (own_nil_cap ho1)
      obtain ⟨V, HV⟩ : ∃ V, Hid (w1.alloc (.cells (feedC p l d s A1 bs.length c1 A2 hs.length c2) 29) = V) := ⟨_, rfl⟩
      have HBV : Hid (Below w1.heap.size w1 V) := by rw [← HV.out]; exact (Below.refl _ w1).alloc (Nat.le_refl _) _
      have KV : Hid (Blk V w1.heap.size 29 (feedC p l d s A1 bs.length c1 A2 hs.length c2)) := by rw [← HV.out]; exact Blk.new w1 _ _
      have CV : Hid (∀ U, Below w1.heap.size w1 U → Calls Try.prog 14 #[feedV p l d s A1 bs.length c1 A2 hs.length c2] U fun e w' => e = .returned (.bool (okB ⟨p, l, d, s, bs, hs⟩)) ∧ Below U.heap.size U w') := fun U hU => feedValid_any p l d s A1 c1 A2 c2 bs hs U (HF.out.belowS hU)
      have CS : Hid (∀ U, Below w1.heap.size w1 U → Calls Try.prog 16 #[feedV p l d s A1 bs.length c1 A2 hs.length c2] U fun e w' => e = .returned (.bool (okB ⟨p, l, d, s, bs, hs⟩)) ∧ Below U.heap.size U w') := fun U hU => sfeedValid_any p l d s A1 c1 A2 c2 bs hs U (HF.out.belowS hU)
      obtain ⟨R, HR⟩ : ∃ R, Hid (okB ⟨p, l, d, s, bs, hs⟩ = R) := ⟨_, rfl⟩
      rw [HR.out] at CV CS
      have hne : (R != R) = false := by simp
      have heq : (R == R) = true := by simp
      obtain ⟨m, HM⟩ : ∃ m, Hid (bs.length = m) := ⟨_, rfl⟩
      obtain ⟨n, HN⟩ : ∃ n, Hid (hs.length = n) := ⟨_, rfl⟩
      rw [HM.out] at CV CS HV KV hlb ⊢
      rw [HN.out] at CV CS HV KV hlh ⊢
      clear ho1 hb1
      go_wp2_with fail
      rw [HV.out]
      refine (CV.out _ HBV.out).mono ?_
      rintro e w2 ⟨rfl, hb2⟩
      have K2 := Lib.hid (KV.out.below hb2 KV.out.lt)
      have HB2 : Hid (Below w1.heap.size w1 w2) := HBV.out.trans (hb2.mono HBV.out.size)
      obtain ⟨k0, k1, k2, k3, k4, k5⟩ := feed_cells K2.out
      clear hb2
      go_wp2_with fail
      refine (CS.out _ HB2.out).mono ?_
      rintro e w3 ⟨rfl, hb3⟩
      have K3 := Lib.hid (K2.out.below hb3 K2.out.lt)
      have HB3 : Hid (Below w1.heap.size w1 w3) := HB2.out.trans (hb3.mono HB2.out.size)
      have HB3w : Hid (Below w.heap.size w w3) := HB1.out.trans (HB3.out.mono HB1.out.size)
      clear hb3 k0 k1 k2 k3 k4 k5
      obtain ⟨k0, k1, k2, k3, k4, k5⟩ := feed_cells K3.out
      cases hR : R with
      | false =>
        subst hR
        go_wp2
        go_ret
        exact ⟨rfl, HB3w.out⟩
      | true =>
        subst hR
        have hok := (okB_iff _).1 HR.out
        by_cases hm0 : m = 0
        · subst hm0
          clear hok
          go_wp2
          go_ret
          exact ⟨rfl, HB3w.out⟩
        · have hmb : ((m : Int) == 0) = false := beq_eq_false_iff_ne.2 (by omega)
          have hmb2 : (m == 0) = false := beq_eq_false_iff_ne.2 (by omega)
          have hn : n = m := by have h2 : hs.length = bs.length := hok.len.2; rw [HM.out, HN.out] at h2; exact h2
          have h16 : m ≤ 16 := by have h2 : bs.length ≤ 16 := hok.len.1; rw [HM.out] at h2; exact h2
          subst hn
          obtain ⟨k, HKK⟩ : ∃ k, Hid (len1 % n = k) := ⟨_, rfl⟩
          have hkn : k < n := by rw [← HKK.out]; exact Nat.mod_lt _ (by omega)
          have hmod : (len1 : Int) % (n : Int) = (k : Int) := by rw [← HKK.out]; rfl
          have hmodt : (len1 : Int).tmod (n : Int) = (k : Int) := by rw [← HKK.out]; exact tmod_nat len1 n
          have hn0 : ¬ (n : Int) = 0 := by omega
          have hki : (k : Int) < (n : Int) := by omega
          have hk0 : (0 : Int) ≤ (k : Int) := by omega
          have HFG := Lib.hid (ok_forget hok k (by rw [HM.out]; exact hkn))
          obtain ⟨W, HW⟩ : ∃ W, Hid (w3.alloc (.cells (feedC p l d s A1 n c1 A2 n c2) 29) = W) := ⟨_, rfl⟩
          have HZ : Hid (W.heap.size = w3.heap.size + 1) := by show _ = _; rw [← HW.out]; simp
          have HOW : Hid (OwnStrs (W.alloc (.cells #[] 9)) (w3.heap.size + 1) (some ⟨w3.heap.size + 1, 0, none⟩) 0 []) := by have h := OwnStrs.new W; rw [HZ.out] at h; exact h
          have HBW : Hid (Below w1.heap.size w1 W) := by rw [← HW.out]; exact HB3.out.alloc HB3.out.size _
          have KW : Hid (Blk W w1.heap.size 29 (feedC p l d s A1 n c1 A2 n c2)) := by rw [← HW.out]; exact K3.out.alloc _
          have XW : Hid (Blk W w3.heap.size 29 (feedC p l d s A1 n c1 A2 n c2)) := by rw [← HW.out]; exact Blk.new w3 _ _
          have HFW : Hid (FeedAt W W.heap.size A1 A2 bs hs) := HF.out.belowS HBW.out
          have h13 : w1.heap.size < w3.heap.size := K3.out.lt
          clear hok
          go_wp2_with (first
            | (at_builtin
               rw [HW.out]
               refine wpList_app_strs rfl (.tmp 47) (.tmp 49) rfl _ (w3.heap.size + 1) _ 0 [] rfl A1 c1 bs (by rw [HM.out]; rfl) HOW.out (HFW.out.allocS _).strs (by rw [HM.out]; simp; omega) (by have := HZ.out; simp; omega) HNC.out.1 ?_
               intro v w4 hA
               rw [List.nil_append] at hA
               obtain ⟨⟨X4, e4, rfl, ho4⟩, _, hb4⟩ := hA
               obtain ⟨y4, hX4⟩ := owns_some ho4 (by rw [HM.out]; omega)
               subst hX4
               rw [HM.out]
               have K4 := Lib.hid ((KW.out.alloc (.cells #[] 9)).below hb4 (by omega))
               have X4b := Lib.hid ((XW.out.alloc (.cells #[] 9)).below hb4 (by omega))
               clear k0 k1 k2 k3 k4 k5
               obtain ⟨k0, k1, k2, k3, k4, k5⟩ := feed_cells K4.out
               obtain ⟨x0, x1, x2, x3, x4, x5⟩ := feed_cells X4b.out
               have xf := blk_frozen X4b.out
               have HO4 := Lib.hid ho4
               have HB4 : Hid (Below w1.heap.size w1 w4) := (HBW.out.alloc HBW.out.size _).trans (hb4.mono (by omega))
               have hz4 : w3.heap.size < w4.heap.size := X4b.out.lt
               have hz41 : w1.heap.size < w4.heap.size := by omega
               have hn13 : w1.heap.size ≠ w3.heap.size := by omega
               clear hb4 ho4)
            | (at_builtin
               obtain ⟨U, HU⟩ : ∃ U, Hid (w4.setCell ⟨w3.heap.size, 4, none⟩ (.slice (some ⟨y4, 0, none⟩) n e4) = U) := ⟨_, rfl⟩
               have HZU : Hid (U.heap.size = w4.heap.size) := by show _ = _; rw [← HU.out]; simp
               have HOB : Hid (OwnBools (U.alloc (.cells #[] 4)) w4.heap.size (some ⟨w4.heap.size, 0, none⟩) 0 []) := by have h := OwnBools.new U; rw [HZU.out] at h; exact h
               have HBU : Hid (Below w1.heap.size w1 U) := by rw [← HU.out]; exact HB4.out.setCell (p := ⟨w3.heap.size, 4, none⟩) (by show w1.heap.size ≤ w3.heap.size; omega) _
               have XU : Hid (Blk U w3.heap.size 29 (feedC p l d s (some ⟨y4, 0, none⟩) n e4 A2 n c2)) := by rw [← HU.out]; exact X4b.out.setOwn 4 _
               have HOU : Hid (OwnStrs U (w3.heap.size + 1) (some ⟨y4, 0, none⟩) e4 bs) := by
                 rw [← HU.out]
                 exact owns_block HO4.out fun x hx => Below.heap_setCell w4 _ _ x (by have := (owns_lt HO4.out x hx).1; show x ≠ w3.heap.size; omega)
               rw [HU.out]
               refine wpList_app_bools rfl (.tmp 52) (.tmp 54) rfl _ w4.heap.size _ 0 [] rfl A2 c2 hs (by rw [HN.out]; rfl) HOB.out ((HF.out.belowS HBU.out).allocS _).bits (by rw [HN.out]; simp; omega) (by have := HZU.out; simp; omega) HNC.out.2 ?_
               intro v w6 hA
               rw [List.nil_append] at hA
               obtain ⟨⟨X6, e6, rfl, ho6⟩, _, hb6⟩ := hA
               obtain ⟨y6, hX6⟩ := ownb_some ho6 (by rw [HN.out]; omega)
               subst hX6
               rw [HN.out]
               have X6b := Lib.hid ((XU.out.alloc (.cells #[] 4)).below hb6 (by omega))
               have HS6 : Hid (OwnStrs w6 (w3.heap.size + 1) (some ⟨y4, 0, none⟩) e4 bs) := owns_block (HOU.out.alloc (.cells #[] 4)) fun x hx => hb6.block x (by have := (owns_lt HOU.out x hx).2; have := HZU.out; omega)
               have HO6 := Lib.hid ho6
               have HB6 : Hid (Below w1.heap.size w1 w6) := (HBU.out.alloc HBU.out.size _).trans (hb6.mono (by omega))
               clear k0 k1 k2 k3 k4 k5 x0 x1 x2 x3 x4 x5 xf hb6 ho6
               obtain ⟨x0, x1, x2, x3, x4, x5⟩ := feed_cells X6b.out
               have xf := blk_frozen X6b.out
               obtain ⟨s0, s1⟩ := owns_cell HS6.out k (by rw [HM.out]; exact hkn)
               obtain ⟨b0, b1⟩ := ownb_cell HO6.out k (by rw [HN.out]; exact hkn)
               have hne1 : y4 ≠ w3.heap.size := strs_ne_blk HS6.out X6b.out y4 rfl
               have hne2 : y6 ≠ w3.heap.size := bits_ne_blk HO6.out X6b.out y6 rfl
               have hne3 : y4 ≠ y6 := rows_part HS6.out HO6.out y4 y6 rfl rfl
               have hle4 := HS6.out.le
               have hle6 := HO6.out.le
               rw [HM.out] at hle4
               rw [HN.out] at hle6)
            | fail)
          obtain ⟨Q, HQ⟩ : ∃ Q, Hid (((w6.setCell ⟨w3.heap.size, 5, none⟩ (.slice (some ⟨y6, 0, none⟩) n e6)).setCell ⟨y4, k, none⟩ (.string ByteArray.empty)).setCell ⟨y6, k, none⟩ (.bool false) = Q) := ⟨_, rfl⟩
          have hQ1 : OwnStrs Q (w3.heap.size + 1) (some ⟨y4, 0, none⟩) e4 (bs.set k ByteArray.empty) := by
            rw [← HQ.out]
            have h1 : OwnStrs (w6.setCell ⟨w3.heap.size, 5, none⟩ (.slice (some ⟨y6, 0, none⟩) n e6)) (w3.heap.size + 1) (some ⟨y4, 0, none⟩) e4 bs := owns_block HS6.out fun x hx => Below.heap_setCell w6 _ _ x (strs_ne_blk HS6.out X6b.out x hx)
            have h2 := (owns_stored h1 k ByteArray.empty).1
            exact owns_block h2 fun x hx => Below.heap_setCell _ ⟨y6, k, none⟩ _ x (by injection hx with hx; injection hx with hx _ _; show x ≠ y6; omega)
          have hQ2 : OwnBools Q w4.heap.size (some ⟨y6, 0, none⟩) e6 (hs.set k false) := by
            rw [← HQ.out]
            have h1 : OwnBools ((w6.setCell ⟨w3.heap.size, 5, none⟩ (.slice (some ⟨y6, 0, none⟩) n e6)).setCell ⟨y4, k, none⟩ (.string ByteArray.empty)) w4.heap.size (some ⟨y6, 0, none⟩) e6 hs := ownb_block HO6.out fun x hx => by
              injection hx with hx
              injection hx with hx _ _
              rw [Below.heap_setCell _ ⟨y4, k, none⟩ _ x (by show x ≠ y4; omega), Below.heap_setCell _ ⟨w3.heap.size, 5, none⟩ _ x (by show x ≠ w3.heap.size; omega)]
            exact (ownb_stored h1 k false).1
          have HFQ : Hid (FeedAt Q Q.heap.size (some ⟨y4, 0, none⟩) (some ⟨y6, 0, none⟩) (bs.set k ByteArray.empty) (hs.set k false)) :=
            ⟨hQ1.ints, hQ2.ints, HF.out.fit.set k (Nat.zero_le _), Nat.le_trans hQ1.le.1 hQ1.le.2, Nat.le_trans hQ2.le.1 hQ2.le.2⟩
          have HBQ : Hid (Below w1.heap.size w1 Q) := by
            rw [← HQ.out]
            have q4 := (owns_lt HS6.out y4 rfl).1
            have q6 := (ownb_lt HO6.out y6 rfl).1
            exact ((HB6.out.setCell (p := ⟨w3.heap.size, 5, none⟩) (by show w1.heap.size ≤ w3.heap.size; omega) _).setCell (p := ⟨y4, k, none⟩) (by show w1.heap.size ≤ y4; omega) _).setCell (p := ⟨y6, k, none⟩) (by show w1.heap.size ≤ y6; omega) _
          have CQ : Hid (Calls Try.prog 14 #[feedV p l d s (some ⟨y4, 0, none⟩) n e4 (some ⟨y6, 0, none⟩) n e6] Q fun e w' => e = .returned (.bool true) ∧ Below Q.heap.size Q w') := by
            have h := feedValid_any p l d s _ e4 _ e6 (bs.set k ByteArray.empty) (hs.set k false) Q HFQ.out
            rw [HFG.out, List.length_set, List.length_set, HM.out, HN.out] at h
            exact h
          rw [show (⟨#[]⟩ : ByteArray) = ByteArray.empty from rfl, HQ.out]
          refine CQ.out.mono ?_
          rintro e w9 ⟨rfl, hb9⟩
          have HB9 : Hid (Below w.heap.size w w9) := HB1.out.trans ((HBQ.out.trans (hb9.mono HBQ.out.size)).mono HB1.out.size)
          clear hb9
          go_wp2
          go_ret
          exact ⟨rfl, HB9.out⟩
    · have h9 : 1048576 < len1 := by omega
      clear hlen1
      go_enter Try.func5, Try.ntmps5
      go_wp2
      go_ret
      exact ⟨rfl, Below.refl _ _⟩
  · have h9 : 1048576 < len := by omega
    clear hlen
    go_enter Try.func5, Try.ntmps5
    go_wp2
    go_ret
    exact ⟨rfl, Below.refl _ _⟩

end Go.Proofs.Ytgpmodidpdjhkaa
