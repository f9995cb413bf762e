/- Contracts of the model's ChokeGive and ChokeFade. Condition: the numbers lie in memory. -/
import Derived.Test.YtgmaegcnbebcnaaSChoke
import Derived.Test.YtgmaegcnbebcnaaChokeGive
import Derived.Test.YtgmaegcnbebcnaaBaseC
namespace Go.Proofs.Ytgmaegcnbebcnaa
open Go.RowKit
set_option linter.unusedVariables false

theorem peerB_last (gs : List Int) (n : Nat) (p : Int) (hn : gs.length = n) : (decide (0 ≤ p) && decide (p ≤ (n : Int) - 1)) = peerB gs p := by
  unfold peerB
  rw [hn]
  congr 1
  rw [decide_eq_decide]
  omega

set_option maxHeartbeats 3000000 in
set_option maxRecDepth 100000 in
theorem sgive_no (A : Option Addr) (cap : Nat) (gs : List Int) (n : Nat) (p : Int) (w : World) (hI : IntsAt w w.heap.size A gs) (hn : gs.length = n) (hm : n ≤ 1048576) (hno : ¬ (okG gs = true ∧ peerB gs p = true)) :
    Calls Try.prog 15 #[.slice A n cap, .int .i64 p] w (RetGive w [] false) := by
  have CV := sgiven_any A cap gs n w w.heap.size hI hn hm
  have CP := l6in_any p 0 ((n : Int) - 1) w
  rw [peerB_last gs n p hn] at CP
  have hwr : IntKind.i64.wrap ((n : Int) - 1) = (n : Int) - 1 := by rw [IntKind.wrap_i64]; omega
  cases hg : okG gs with
  | false =>
    rw [hg] at CV
    have HV := Lib.hid CV
    clear CV CP hI hg hno
    go_enter Try.func15, Try.ntmps15
    go_wp2_with fail
    refine HV.out.mono ?_
    rintro e w1 ⟨rfl, hw⟩
    cases hw
    go_wp2
    go_ret2
    exact ⟨_, 0, rfl, OwnInts.new _, (Below.refl _ _).alloc (Nat.le_refl _) _⟩
  | true =>
    have hp : peerB gs p = false := by
      cases e : peerB gs p with
      | false => rfl
      | true => exact absurd ⟨hg, e⟩ hno
    rw [hg] at CV
    rw [hp] at CP
    have HV := Lib.hid CV
    have HP := Lib.hid CP
    clear CV CP hI hg hno hp
    go_enter Try.func15, Try.ntmps15
    go_wp2_with fail
    refine HV.out.mono ?_
    rintro e w1 ⟨rfl, hw⟩
    cases hw
    go_wp2_with fail
    refine HP.out.mono ?_
    rintro e w1 ⟨rfl, hw⟩
    cases hw
    go_wp2
    go_ret2
    exact ⟨_, 0, rfl, OwnInts.new _, (Below.refl _ _).alloc (Nat.le_refl _) _⟩

set_option maxHeartbeats 3000000 in
set_option maxRecDepth 100000 in
theorem sgive_yes (A : Option Addr) (cap : Nat) (gs : List Int) (n q : Nat) (w : World) (hI : IntsAt w w.heap.size A gs) (hn : gs.length = n) (hG : okG gs = true) (hq : q < n) (zs : List Int) (ok : Bool) (hF : nth gs q = 99 → zs = gs ∧ ok = false) (hM : ¬ nth gs q = 99 → zs = gs.set q (nth gs q + 1) ∧ ok = true) :
    Calls Try.prog 15 #[.slice A n cap, .int .i64 (q : Int)] w (RetGive w zs ok) := by
  have h6 : n ≤ 6 := by rw [← hn]; exact (okG_iff.1 hG).1
  have hx99 := okG_nth hG q
  have CV := sgiven_any A cap gs n w w.heap.size hI hn (by omega)
  have CP := l6in_any (q : Int) 0 ((n : Int) - 1) w
  rw [decide_eq_true (show (0 : Int) ≤ (q : Int) by omega), decide_eq_true (show (q : Int) ≤ (n : Int) - 1 by omega)] at CP
  have hwr : IntKind.i64.wrap ((n : Int) - 1) = (n : Int) - 1 := by rw [IntKind.wrap_i64]; omega
  rw [hG] at CV
  obtain ⟨b0, o0, rfl, hb0, hc0⟩ := hI (by omega)
  have hcq := hc0 q (by omega)
  have HI := Lib.hid hI
  have HN := Lib.hid hn
  have HV := Lib.hid CV
  have HP : Hid (Calls Try.prog 20 #[.int .i64 (q : Int), .int .i64 0, .int .i64 ((n : Int) - 1)] w fun e w' => e = .returned (.bool true) ∧ w' = w) := CP
  have hq2 : (q : Int) < (n : Int) := by omega
  have hq0 : (0 : Int) ≤ (q : Int) := by omega
  obtain ⟨x, HX⟩ : ∃ x, Hid (nth gs q = x) := ⟨_, rfl⟩
  rw [HX.out] at hx99 hcq
  have HF : Hid (x = 99 → zs = gs ∧ ok = false) := by rw [← HX.out]; exact hF
  have HM : Hid (¬ x = 99 → zs = gs.set q (x + 1) ∧ ok = true) := by rw [← HX.out]; exact hM
  clear CV CP hI hG hn hc0 hF hM
  by_cases h99 : x = 99
  · obtain ⟨hz, ho⟩ := HF.out h99
    have HZ := Lib.hid hz
    subst ho
    subst h99
    clear HF HM hz
    go_enter Try.func15, Try.ntmps15
    go_wp2_with fail
    refine HV.out.mono ?_
    rintro e w1 ⟨rfl, hw⟩
    cases hw
    go_wp2_with fail
    refine HP.out.mono ?_
    rintro e w1 ⟨rfl, hw⟩
    cases hw
    go_wp2_with (at_builtin; refine wpList_app_ints rfl (.tmp 19) (.tmp 20) rfl _ w.heap.size (some ⟨w.heap.size, 0, none⟩) 0 [] rfl _ _ gs (by rw [HN.out]; rfl) (OwnInts.new w) (HI.out.allocS _) (by rw [HN.out]; simp; omega) (by simp) (by simp) ?_; intro v w2 hA; obtain ⟨⟨A2, c2, rfl, ho⟩, _, hb⟩ := hA; rw [List.nil_append] at ho ⊢; have HO := Lib.hid ho; have hB : Below w.heap.size w w2 := ((Below.refl _ _).alloc (Nat.le_refl _) _).trans hb; have HB := Lib.hid hB; have hcq2 : w2.cell? ⟨b0, o0 + q, none⟩ = some (.int .i64 99) := (hB.cell (p := ⟨b0, o0 + q, none⟩) hb0).trans hcq; obtain ⟨b, rfl⟩ := HO.out.some_ (by rw [HN.out]; omega); obtain ⟨hcx, hfx⟩ := own_cell HO.out q (by rw [HN.out]; exact hq); have hbl : w.heap.size ≤ b := (World.ownsRow.lt HO.out b rfl).1; rw [HX.out] at hcx; rw [HN.out]; clear ho hb hB hcq HV HP)
    go_wp2
    go_ret2
    exact ⟨some ⟨b, 0, none⟩, c2, by rw [HZ.out, HN.out]; rfl, by rw [HZ.out]; exact HO.out, HB.out⟩
  · obtain ⟨hz, ho⟩ := HM.out h99
    have hxl : ¬ 99 ≤ x := by omega
    have hwx : IntKind.i64.wrap (x + 1) = x + 1 := by rw [IntKind.wrap_i64]; omega
    have HZ := Lib.hid hz
    subst ho
    clear HF HM hz
    go_enter Try.func15, Try.ntmps15
    go_wp2_with fail
    refine HV.out.mono ?_
    rintro e w1 ⟨rfl, hw⟩
    cases hw
    go_wp2_with fail
    refine HP.out.mono ?_
    rintro e w1 ⟨rfl, hw⟩
    cases hw
    go_wp2_with (at_builtin; refine wpList_app_ints rfl (.tmp 19) (.tmp 20) rfl _ w.heap.size (some ⟨w.heap.size, 0, none⟩) 0 [] rfl _ _ gs (by rw [HN.out]; rfl) (OwnInts.new w) (HI.out.allocS _) (by rw [HN.out]; simp; omega) (by simp) (by simp) ?_; intro v w2 hA; obtain ⟨⟨A2, c2, rfl, ho⟩, _, hb⟩ := hA; rw [List.nil_append] at ho ⊢; have HO := Lib.hid ho; have hB : Below w.heap.size w w2 := ((Below.refl _ _).alloc (Nat.le_refl _) _).trans hb; have HB := Lib.hid hB; have hcq2 : w2.cell? ⟨b0, o0 + q, none⟩ = some (.int .i64 x) := (hB.cell (p := ⟨b0, o0 + q, none⟩) hb0).trans hcq; obtain ⟨b, rfl⟩ := HO.out.some_ (by rw [HN.out]; omega); obtain ⟨hcx, hfx⟩ := own_cell HO.out q (by rw [HN.out]; exact hq); have hbl : w.heap.size ≤ b := (World.ownsRow.lt HO.out b rfl).1; rw [HX.out] at hcx; rw [HN.out]; clear ho hb hB hcq HV HP)
    go_wp2
    go_ret2
    exact ⟨some ⟨b, 0, none⟩, c2, by rw [HZ.out, List.length_set, HN.out]; rfl, by rw [HZ.out]; exact HO.out.stored q (x + 1), HB.out.setCell (p := ⟨b, q, none⟩) hbl _⟩
theorem schokeGive_any (A : Option Addr) (cap : Nat) (gs : List Int) (n : Nat) (p : Int) (w : World) (hI : IntsAt w w.heap.size A gs) (hn : gs.length = n) (hm : n ≤ 1048576) :
    Calls Try.prog 15 #[.slice A n cap, .int .i64 p] w (RetGive w (giveZ gs p) (giveB gs p)) := by
  by_cases h : okG gs = true ∧ peerB gs p = true
  · have hp := peerB_iff.1 h.2
    obtain ⟨q, rfl⟩ : ∃ q : Nat, p = (q : Int) := ⟨p.toNat, by omega⟩
    refine sgive_yes A cap gs n q w hI hn h.1 (by omega) _ _ (fun hx => ?_) (fun hx => ?_)
    · exact ⟨giveZ_full h.1 h.2 (by rw [Int.toNat_natCast]; exact hx), giveB_full (by rw [Int.toNat_natCast]; exact hx)⟩
    · have e := giveZ_more h.1 h.2 (by rw [Int.toNat_natCast]; exact hx)
      rw [Int.toNat_natCast] at e
      exact ⟨e, giveB_more h.1 h.2 (by rw [Int.toNat_natCast]; exact hx)⟩
  · rw [giveZ_no h, giveB_no h]
    exact sgive_no A cap gs n p w hI hn hm h

set_option maxHeartbeats 3000000 in
set_option maxRecDepth 100000 in
theorem schokeFade_any (A : Option Addr) (cap : Nat) (gs : List Int) (n : Nat) (w : World) (hI : IntsAt w w.heap.size A gs) (hn : gs.length = n) (hm : n ≤ 1048576) :
    Calls Try.prog 17 #[.slice A n cap] w (RetInts w (fadeZ gs)) := by
  have HCV : Hid (∀ W, Below w.heap.size w W → Calls Try.prog 19 #[.slice A n cap] W fun e w' => e = .returned (.bool (okG gs)) ∧ w' = W) := fun W hW => sgiven_any A cap gs n W w.heap.size (hI.below hW (Nat.le_refl _)) hn hm
  have HI := Lib.hid hI
  have HN := Lib.hid hn
  have HO0 : Hid (OwnInts (w.alloc (.cells #[] 3)) w.heap.size (some ⟨w.heap.size, 0, none⟩) 0 (halfZ (gs.take 0))) := OwnInts.new w
  have HB0 : Hid (Below w.heap.size w (w.alloc (.cells #[] 3))) := (Below.refl _ _).alloc (Nat.le_refl _) _
  clear hI hn
  by_cases h0 : n = 0
  · subst h0
    have HE : Hid (fadeZ gs = []) := by
      have : gs = [] := List.eq_nil_of_length_eq_zero HN.out
      subst this
      rfl
    go_enter Try.func17, Try.ntmps17
    go_wp2
    refine wp_loop_rounds 1 ?_
    rw [rounds_succ]
    go_wp2
    go_ret
    exact ⟨some ⟨w.heap.size, 0, none⟩, 0, by rw [HE.out]; rfl, by rw [HE.out]; exact HO0.out, HB0.out⟩
  · cases hg : okG gs with
    | false =>
      have HE : Hid (fadeZ gs = []) := by show _ = _; unfold fadeZ; rw [hg]; rfl
      have HV := Lib.hid (HCV.out _ HB0.out)
      rw [hg] at HV
      have hnz : (0 : Int) < (n : Int) := by omega
      clear hg
      go_enter Try.func17, Try.ntmps17
      go_wp2
      refine wp_loop_rounds 1 ?_
      rw [rounds_succ]
      go_wp2_with fail
      refine HV.out.mono ?_
      rintro e w1 ⟨rfl, hw⟩
      cases hw
      go_wp2
      go_ret
      exact ⟨some ⟨w.heap.size, 0, none⟩, 0, by rw [HE.out]; rfl, by rw [HE.out]; exact HO0.out, HB0.out⟩
    | true =>
      have h6 : n ≤ 6 := by rw [← HN.out]; exact (okG_iff.1 hg).1
      have HE : Hid (fadeZ gs = halfZ gs) := by show _ = _; unfold fadeZ; rw [hg]; rfl
      have HG : Hid (∀ k, 0 ≤ nth gs k ∧ nth gs k ≤ 99) := okG_nth hg
      rw [hg] at HCV
      clear hg
      go_enter Try.func17, Try.ntmps17
      go_wp2
      go_loopw [3, 4] (fun p i wr => ∃ (k : Nat) (X : Option Addr) (c : Nat), k ≤ n ∧ i = .int .i64 (k : Int) ∧ p = .slice X k c ∧ Hid (OwnInts wr w.heap.size X c (halfZ (gs.take k))) ∧ Hid (Below w.heap.size w wr)) (fun _ i _ => n - (intOf i).toNat)
      case atStart => exact ⟨0, _, 0, Nat.zero_le _, rfl, rfl, HO0, HB0⟩
      case round =>
        obtain ⟨k, X, c, hk, rfl, rfl, HO, HB⟩ := hrel
        have hsz := HB.out.size
        by_cases hlt : k < n
        · have hkz : k < gs.length := by rw [HN.out]; exact hlt
          obtain ⟨b, o, rfl, hb, hc⟩ := (HI.out.below HB.out (Nat.le_refl _)) (by omega)
          have hck := hc k hkz
          clear hc
          have hki : (k : Int) < (n : Int) := by omega
          have hk0 : (0 : Int) ≤ (k : Int) := by omega
          have hx := HG.out k
          have hst := half_step gs k hkz
          obtain ⟨x, HX⟩ : ∃ x, Hid (nth gs k = x) := ⟨_, rfl⟩
          rw [HX.out] at hck hx hst
          have hdv : x.tdiv 2 = x / 2 := Int.tdiv_eq_ediv_of_nonneg hx.1
          have hwd : IntKind.i64.wrap (x / 2) = x / 2 := by rw [IntKind.wrap_i64]; omega
          have HS := Lib.hid hst
          have HL : Hid ((halfZ (gs.take k)).length = k) := by show _ = _; rw [halfZ_length, List.length_take]; omega
          have HL1 : Hid ((halfZ (gs.take (k + 1))).length = k + 1) := by show _ = _; rw [halfZ_length, List.length_take]; omega
          have HV := Lib.hid (HCV.out _ HB.out)
          clear hkz hst hb
          go_wp2_with fail
          refine HV.out.mono ?_
          rintro e w1 ⟨rfl, hw⟩
          cases hw
          go_wp2_with (at_builtin; refine wpList_app_ints rfl (.tmp 16) (.tmp 22) rfl _ w.heap.size X c (halfZ (gs.take k)) (by rw [HL.out]; rfl) _ _ [x / 2] rfl (HO.out.alloc _) (one_new _ _) (by rw [HL.out]; simp; omega) (by simp; omega) (by simp) ?_; intro v w5 hA)
          obtain ⟨⟨A5, c5, rfl, ho5⟩, hg5, hb5⟩ := hA
          rw [← HS.out] at ho5 ⊢
          have HO5 := Lib.hid ho5
          have HB5 : Hid (Below w.heap.size w w5) := (HB.out.alloc hsz _).trans hb5
          rw [HL1.out]
          clear ho5 hg5 hb5
          go_wp2
          go_roundw
          case rel => exact ⟨k + 1, A5, c5, by omega, by go_num, rfl, HO5, HB5⟩
          case measure => simp [intOf]; omega
        · have hkn : k = n := by omega
          subst hkn
          have HT : Hid (OwnInts wr w.heap.size X c (halfZ gs)) := by
            have h := HO.out
            rw [List.take_of_length_le (by rw [HN.out]; omega)] at h
            exact h
          go_wp2
          go_ret
          exact ⟨X, c, by rw [HE.out, halfZ_length, HN.out]; rfl, by rw [HE.out]; exact HT.out, HB.out⟩

end Go.Proofs.Ytgmaegcnbebcnaa
