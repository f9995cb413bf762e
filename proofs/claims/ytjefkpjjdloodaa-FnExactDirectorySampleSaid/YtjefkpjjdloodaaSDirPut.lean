/- Contract of the model's DirectoryPut: it answers as the data say, in memory of the call's own. Condition: the nodes lie in memory. -/
import Derived.Test.YtjefkpjjdloodaaSDir3
import Derived.Deep.RegionHeld3
namespace Go.Proofs.Ytjefkpjjdloodaa
open Go.RowKit
set_option linter.unusedVariables false

theorem rowL_drop {w : World} {B b o : Nat} {xs : List LD} (h : RowAt LK w B (some ⟨b, o, none⟩) xs) (s : Nat) : RowAt LK w B (some ⟨b, o + s * 2, none⟩) (xs.drop s) := fun hn => by
  rw [List.length_drop] at hn
  obtain ⟨hb, hc⟩ := h.lt (by omega)
  refine ⟨b, o + s * 2, rfl, hb, fun j x hx i v hv => ?_⟩
  rw [List.getElem?_drop] at hx
  have hh := hc (s + j) x hx i v hv
  have e : o + s * 2 + j * LK.k + i = o + (s + j) * LK.k + i := by show o + s * 2 + j * 2 + i = o + (s + j) * 2 + i; omega
  rw [e]
  exact hh
theorem ownL_lt {w : World} {base g c : Nat} {xs : List LD} (h : OwnRow LK w base (some ⟨g, 0, none⟩) c xs) : g < w.heap.size := (World.ownsRow.lt h g rfl).2
theorem oneL_kept {W W' : World} {g f n c : Nat} {xs : List LD} (h : RowAt LK W W.heap.size (some ⟨g, 0, none⟩) xs) (hg : W.grownBy W' (Value.ownBlock (.slice (some ⟨f, 0, none⟩) n c))) (hne : g ≠ f) : RowAt LK W' W'.heap.size (some ⟨g, 0, none⟩) xs := fun hn => by
  obtain ⟨b, o, e, hb, hc⟩ := h hn
  have hs := hg.size
  refine ⟨b, o, e, by omega, fun j x hx i v hv => (World.cell?_of_block (hg.block b hb ?_)).trans (hc j x hx i v hv)⟩
  injection e with e
  injection e with e1 e2
  subst e1
  intro e
  simp [Value.ownBlock] at e
  omega
theorem setL_hit {xs : List LD} (h : DirP xs) {node now : Int} {k : Nat} (hk : k < xs.length) (e : (lth xs k).n = node) : setL xs node now = xs.set k ⟨node, max (lth xs k).t now⟩ := by
  refine lis_ext (by unfold setL; rw [List.length_map, List.length_set]) fun i hi => ?_
  have hi2 : i < xs.length := by unfold setL at hi; rwa [List.length_map] at hi
  have h1 : lth (setL xs node now) i = newer node now (lth xs i) := by
    unfold setL lth
    rw [List.getD_eq_getElem?_getD, List.getD_eq_getElem?_getD, List.getElem?_map, List.getElem?_eq_getElem hi2]; rfl
  rw [h1]
  by_cases hik : i = k
  · subst hik
    have h2 : lth (xs.set i ⟨node, max (lth xs i).t now⟩) i = ⟨node, max (lth xs i).t now⟩ := by
      unfold lth; rw [List.getD_eq_getElem?_getD, List.getElem?_set_self hi2]; rfl
    rw [h2]
    unfold newer
    rw [if_pos e, e]
  · have h2 : lth (xs.set k ⟨node, max (lth xs k).t now⟩) i = lth xs i := by
      unfold lth; rw [List.getD_eq_getElem?_getD, List.getElem?_set_ne (Ne.symm hik), ← List.getD_eq_getElem?_getD]
    rw [h2]
    unfold newer
    rw [if_neg]
    intro e2
    exact hik (lth_inj h hi2 hk (e2.trans e.symm))
/-- A list of nodes and a truth value in memory of the call's own. -/
def RetLisB (w : World) (xs : List LD) (b : Bool) (e : Ending) (w' : World) : Prop :=
  ∃ A c, e = .returned (.tuple #[.slice A xs.length c, .bool b]) ∧ OwnRow LK w' w.heap.size A c xs ∧ Below w.heap.size w w'

set_option maxHeartbeats 8000000 in
set_option maxRecDepth 100000 in
theorem sdirPut_any (A : Option Addr) (cap : Nat) (xs : List LD) (node now : Int) (w : World) (hA : LisAt w w.heap.size A cap xs) {n : Nat} (hn : xs.length = n) :
    Calls Try.prog 12 #[.slice A n cap, .int .i64 node, .int .i64 now] w (RetLisB w (putL xs node now) (putO xs node now)) := by
  obtain ⟨i0, zz, hi0, hz0, hz1, hz2, hz3⟩ := lis_app_info
  have HI0 := Lib.hid (And.intro hi0 (And.intro hz0 (And.intro hz1 (And.intro hz2 hz3))))
  clear hi0 hz0 hz1 hz2 hz3
  have HA := Lib.hid hA
  have HN := Lib.hid hn
  have hnil := hA.nil0
  have HBw : Hid (Below w.heap.size w w) := Below.refl _ w
  have CV : Hid (∀ U, Below w.heap.size w U → Calls Try.prog 8 #[.slice A n cap] U fun e w' => e = .returned (.bool (dirB xs)) ∧ ∃ q, w' = U.drewN q) := fun U hU => sdirValid_any A cap xs U (hA.belowS hU) hn
  have C1 := Lib.hid (fun U => l6in_any node 0 99 U)
  have e1 : (decide (0 ≤ node) && decide (node ≤ 99)) = nOk node := rfl
  rw [e1] at C1
  have C2 := Lib.hid (fun U => l6in_any now 0 999 U)
  have e2 : (decide (0 ≤ now) && decide (now ≤ 999)) = tOk now := rfl
  rw [e2] at C2
  have HPI : Hid (putIn xs node now = (dirB xs && (nOk node && tOk now))) := rfl
  clear hA hn e1 e2
  go_enter Try.func12, Try.ntmps12
  cases hv : dirB xs with
  | false =>
    rw [hv] at CV HPI
    have HRL : Hid (putL xs node now = []) := putL_no HPI.out
    have HRO : Hid (putO xs node now = false) := putO_no HPI.out
    clear hv
    go_wp2_with fail
    refine (CV.out _ HBw.out).mono ?_
    rintro e w1 ⟨rfl, q, rfl⟩
    have HB1 : Hid (Below w.heap.size w (w.drewN q)) := below_drewN (Below.refl _ _) q
    have HBF : Hid (Below w.heap.size w ((w.drewN q).alloc (.cells #[] 41))) := HB1.out.alloc HB1.out.size _
    have HOF := Lib.hid (own_newL HB1.out)
    go_wp2
    go_ret2
    exact ⟨_, _, by rw [HRL.out, HRO.out]; rfl, by rw [HRL.out]; exact HOF.out, HBF.out⟩
  | true =>
    rw [hv] at CV HPI
    have HD := Lib.hid (dirP_of hv)
    clear hv
    go_wp2_with fail
    refine (CV.out _ HBw.out).mono ?_
    rintro e w1 ⟨rfl, q, rfl⟩
    obtain ⟨w1, HW1⟩ : ∃ U, Hid (w.drewN q = U) := ⟨_, rfl⟩
    have HB1 : Hid (Below w.heap.size w w1) := by rw [← HW1.out]; exact below_drewN (Below.refl _ _) q
    rw [HW1.out]
    cases h1 : nOk node with
    | false =>
      rw [h1] at C1 HPI
      have HRL : Hid (putL xs node now = []) := putL_no HPI.out
      have HRO : Hid (putO xs node now = false) := putO_no HPI.out
      clear h1
      go_wp2_with fail
      refine (C1.out _).mono ?_
      rintro e w2 ⟨rfl, rfl⟩
      have HBF : Hid (Below w.heap.size w (w2.alloc (.cells #[] 41))) := HB1.out.alloc HB1.out.size _
      have HOF := Lib.hid (own_newL HB1.out)
      go_wp2
      go_ret2
      exact ⟨_, _, by rw [HRL.out, HRO.out]; rfl, by rw [HRL.out]; exact HOF.out, HBF.out⟩
    | true =>
      rw [h1] at C1 HPI
      clear h1
      go_wp2_with fail
      refine (C1.out _).mono ?_
      rintro e w2 ⟨rfl, rfl⟩
      cases h2 : tOk now with
      | false =>
        rw [h2] at C2 HPI
        have HRL : Hid (putL xs node now = []) := putL_no HPI.out
        have HRO : Hid (putO xs node now = false) := putO_no HPI.out
        clear h2
        go_wp2_with fail
        refine (C2.out _).mono ?_
        rintro e w3 ⟨rfl, rfl⟩
        have HBF : Hid (Below w.heap.size w (w3.alloc (.cells #[] 41))) := HB1.out.alloc HB1.out.size _
        have HOF := Lib.hid (own_newL HB1.out)
        go_wp2
        go_ret2
        exact ⟨_, _, by rw [HRL.out, HRO.out]; rfl, by rw [HRL.out]; exact HOF.out, HBF.out⟩
      | true =>
        rw [h2] at C2
        rw [h2] at HPI
        have HIN : Hid (putIn xs node now = true) := HPI.out
        have hcap := HA.out.most
        have hle := HA.out.le
        rw [HN.out] at hle
        unfold maxLen at hcap
        have hn8 : n ≤ 8 := by rw [← HN.out]; exact HD.out.len
        clear h2 HPI
        go_wp2_with fail
        refine (C2.out _).mono ?_
        rintro e w3 ⟨rfl, rfl⟩
        have hbz : w.heap.size ≤ w3.heap.size := HB1.out.size
        have HR3 : Hid (RowAt LK w3 w3.heap.size A xs) := (HA.out.belowS HB1.out).row
        clear HW1
        go_wp2_with (at_builtin; refine wpList_app_row (K := LK) Try.underlying25 HI0.out.1 HI0.out.2.1 HI0.out.2.2.1 HI0.out.2.2.2.1 HI0.out.2.2.2.2 (by decide) rfl (.tmp 25) (.tmp 26) rfl _ w.heap.size (some ⟨w3.heap.size, 0, none⟩) 0 [] rfl A cap xs (by rw [HN.out]; rfl) ((OwnRow.new LK w3).base_le hbz) (HR3.out.allocS _) (by rw [HN.out]; simp; omega) (by simp; omega) hnil ?_; intro v w4 hA; rw [List.nil_append] at hA; obtain ⟨X, x, rfl, ho4⟩ := hA.at0; have HB4 : Hid (Below w.heap.size w w4) := ((HB1.out.alloc hbz _).trans hA.below); have HO4 := Lib.hid ho4; rw [HN.out]; clear hA ho4)
        have hbz4 : w.heap.size ≤ w4.heap.size := HB4.out.size
        have hox := HO4.out.le
        rw [HN.out] at hox
        have hx1 := hox.1
        have hx2 := hox.2
        unfold maxLen at hx2
        clear hox
        go_loop [9] (fun i => ∃ k : Nat, k ≤ n ∧ i = .int .i64 (k : Int) ∧ Hid (∀ j, j < k → (lth xs j).n ≠ node)) (fun i => n - (intOf i).toNat)
        case atStart => exact ⟨0, Nat.zero_le _, rfl, fun j hj => absurd hj (Nat.not_lt_zero _)⟩
        case round =>
          obtain ⟨k, hk, rfl, HC⟩ := hrel
          by_cases hlt : k < n
          · have hkz : k < xs.length := by rw [HN.out]; exact hlt
            obtain ⟨c0, c1⟩ := lis_cells HO4.out.at_ k hkz
            have cf := (HO4.out.cellF k (lth xs k) (lth_get xs k hkz) 1 _ rfl).2
            rw [Nat.zero_add] at c0 c1
            have HST := Lib.hid (fun v (hv : LK.enc ⟨(lth xs k).n, v⟩ = (LK.enc (lth xs k)).set 1 (.int .i64 v)) => OwnRow.stored HO4.out k (lth xs k) ⟨(lth xs k).n, v⟩ (lth_get xs k hkz) 1 (by decide) (.int .i64 v) hv)
            have HHIT := Lib.hid (fun e => setL_hit (now := now) HD.out (node := node) hkz e)
            have HHAS : Hid ((lth xs k).n = node → hasN xs node = true) := fun e => (hasN_iff xs node).2 ⟨_, lth_mem xs k hkz, e⟩
            obtain ⟨vn, HRI⟩ : ∃ x, Hid ((lth xs k).n = x) := ⟨_, rfl⟩
            obtain ⟨vt, HRT⟩ : ∃ x, Hid ((lth xs k).t = x) := ⟨_, rfl⟩
            rw [HRI.out] at c0 HST HHIT HHAS
            rw [HRT.out] at c1 HHIT
            have hk0 : (0 : Int) ≤ (k : Int) := by omega
            have hki : (k : Int) < (n : Int) := by omega
            by_cases he : vn = node
            · have hee : (vn == node) = true := by simp [he]
              have HK := Lib.hid (HHAS.out he)
              obtain ⟨mv, HMV⟩ : ∃ v, Hid (max vt now = v) := ⟨_, rfl⟩
              have HRL : Hid (putL xs node now = xs.set k ⟨node, mv⟩) := by show _ = _; rw [putL_has HIN.out HK.out, HHIT.out he, HMV.out]
              have HRO := Lib.hid (putO_has HIN.out HK.out)
              have HLEN : Hid ((xs.set k (⟨node, mv⟩ : LD)).length = n) := by show _ = _; rw [List.length_set, HN.out]
              have HS2 := HST.out mv (by show [_, _] = List.set [_, _] 1 _; rw [HRI.out]; rfl)
              rw [he] at HS2
              have HOS : Hid (OwnRow LK (w4.setCell ⟨X, k * 2 + 1, none⟩ (.int .i64 mv)) w.heap.size (some ⟨X, 0, none⟩) x (xs.set k ⟨node, mv⟩)) := HS2.1
              have hXb : w.heap.size ≤ X := (HO4.out.lies X rfl).1
              have HBS : Hid (Below w.heap.size w (w4.setCell ⟨X, k * 2 + 1, none⟩ (.int .i64 mv))) := HB4.out.setCell (p := ⟨X, k * 2 + 1, none⟩) hXb _
              have cf2 : w4.frozen? ⟨X, k * 2 + 1, none⟩ = false := cf
              clear he HST HHIT HHAS HS2 hkz
              by_cases hmx : vt < now
              · have hmv : mv = now := by rw [← HMV.out]; omega
                subst hmv
                clear HMV
                go_wp2
                go_ret2
                exact ⟨_, x, by rw [HRL.out, HRO.out, HLEN.out]; rfl, by rw [HRL.out]; exact HOS.out, HBS.out⟩
              · have hmv : mv = vt := by rw [← HMV.out]; omega
                subst hmv
                clear HMV
                go_wp2
                go_ret2
                exact ⟨_, x, by rw [HRL.out, HRO.out, HLEN.out]; rfl, by rw [HRL.out]; exact HOS.out, HBS.out⟩
            · have hne : (vn == node) = false := beq_eq_false_iff_ne.2 he
              have HC2 : Hid (∀ j, j < k + 1 → (lth xs j).n ≠ node) := fun j hj => by
                rcases Nat.lt_or_ge j k with h | h
                · exact HC.out j h
                · have : j = k := by omega
                  subst this; rw [HRI.out]; exact he
              clear he HST HHIT HHAS hkz
              go_wp2
              go_round
              case rel => exact ⟨k + 1, by omega, by go_num, HC2⟩
              case measure => simp [intOf]; omega
          · have hkn : k = n := by omega
            subst hkn
            have HNH : Hid (hasN xs node = false) := by
              show _ = _
              rw [Bool.eq_false_iff]
              intro e
              obtain ⟨y, hy, e⟩ := (hasN_iff xs node).1 e
              obtain ⟨j, hj, rfl⟩ := mem_lth hy
              rw [HN.out] at hj
              exact HC.out j hj e
            by_cases h8 : 8 ≤ k
            · have h8i : (8 : Int) ≤ (k : Int) := by omega
              have HBL : Hid (baseL xs now = sweepL now xs) := by show _ = _; unfold baseL; rw [if_pos (by rw [HN.out]; exact h8)]
              have CS := Lib.hid (ssweep_any A cap xs now w4 (HA.out.belowS HB4.out) HD.out HN.out)
              go_wp2_with fail
              refine CS.out.mono ?_
              rintro e w5 ⟨Y, y, rfl, ho, hb⟩
              have HO5 := Lib.hid (ho.base_le hbz4)
              have HB5 : Hid (Below w.heap.size w w5) := HB4.out.trans (hb.mono hbz4)
              obtain ⟨ys, HYS⟩ : ∃ ys, Hid (sweepL now xs = ys) := ⟨_, rfl⟩
              rw [HYS.out] at HO5 HBL ⊢
              obtain ⟨m, HM⟩ : ∃ m, Hid (ys.length = m) := ⟨_, rfl⟩
              rw [HM.out]
              clear ho hb CS
              by_cases hm8 : 8 ≤ m
              · have hm8i : (8 : Int) ≤ (m : Int) := by omega
                have HRL : Hid (putL xs node now = ys) := by show _ = _; rw [putL_full HIN.out HNH.out (by rw [HBL.out, HM.out]; exact hm8), HBL.out]
                have HRO : Hid (putO xs node now = false) := putO_full HNH.out (by rw [HBL.out, HM.out]; exact hm8)
                go_wp2
                go_ret2
                exact ⟨_, y, by rw [HRL.out, HRO.out, HM.out]; rfl, by rw [HRL.out]; exact HO5.out, HB5.out⟩
              · have hm8i : ¬ (8 : Int) ≤ (m : Int) := by omega
                have hm8n : m < 8 := by omega
                have HRL0 : Hid (putL xs node now = insL ys node now) := by show _ = _; rw [putL_ins HIN.out HNH.out (by rw [HBL.out, HM.out]; exact hm8), HBL.out]
                have HRO : Hid (putO xs node now = true) := putO_ins HIN.out (by rw [HBL.out, HM.out]; exact hm8)
                clear HO4 HB4 hbz4 hx1 hx2
                obtain ⟨wB, HWB⟩ : ∃ U, Hid (w5 = U) := ⟨_, rfl⟩
                rw [HWB.out] at HO5 HB5 ⊢
                have HO := HO5
                have HB := HB5
                clear HO5 HB5 HWB
                obtain ⟨X', HX'⟩ : ∃ v, Hid (Y = v) := ⟨_, rfl⟩
                rw [HX'.out] at HO ⊢
                clear HX'
                have hox := HO.out.le
                rw [HM.out] at hox
                have HRW : Hid (∀ U, Below wB.heap.size wB U → RowAt LK U U.heap.size (some ⟨X', 0, none⟩) ys) := fun U hU => (HO.out.below hU).at_
                have hx1 := hox.1
                have hx2 := hox.2
                unfold maxLen at hx2
                clear hox
                go_wp2
                go_loop [10] (fun i => ∃ k : Nat, k ≤ m ∧ i = .int .i64 (k : Int) ∧ Hid (∀ j, j < k → ltN node (lth ys j) = true)) (fun i => m - (intOf i).toNat)
                case atStart => exact ⟨0, Nat.zero_le _, rfl, fun j hj => absurd hj (Nat.not_lt_zero _)⟩
                case round =>
                  obtain ⟨k, hk, rfl, HC⟩ := hrel
                  have hk0 : (0 : Int) ≤ (k : Int) := by omega
                  by_cases hgo : k < m ∧ ltN node (lth ys k) = true
                  · obtain ⟨hlt, hp⟩ := hgo
                    have hkz : k < ys.length := by rw [HM.out]; exact hlt
                    have c0 := (HRW.out _ (Below.refl _ _) |> fun r => lis_cells r k hkz).1
                    rw [Nat.zero_add] at c0
                    have hlt1 : (lth ys k).n < node := of_decide_eq_true hp
                    obtain ⟨vn, HVN⟩ : ∃ v, Hid ((lth ys k).n = v) := ⟨_, rfl⟩
                    rw [HVN.out] at c0 hlt1
                    have HC2 : Hid (∀ j, j < k + 1 → ltN node (lth ys j) = true) := fun j hj => by
                      rcases Nat.lt_or_ge j k with h | h
                      · exact HC.out j h
                      · have : j = k := by omega
                        subst this; exact hp
                    have hki : (k : Int) < (m : Int) := by omega
                    have hkd : decide (k < m) = true := decide_eq_true hlt
                    have hnd : decide (vn < node) = true := decide_eq_true hlt1
                    clear hp hkz
                    go_wp2
                    go_round
                    case rel => exact ⟨k + 1, by omega, by go_num, HC2⟩
                    case measure => simp [intOf]; omega
                  · have HSTOP : Hid (k = ys.length ∨ ltN node (lth ys k) = false) := by
                      rcases Nat.lt_or_ge k m with h | h
                      · right
                        cases e : ltN node (lth ys k) with
                        | false => rfl
                        | true => exact absurd ⟨h, e⟩ hgo
                      · left; rw [HM.out]; omega
                    have HW := Lib.hid (while_of (p := ltN node) ys k (by rw [HM.out]; exact hk) HC.out HSTOP.out)
                    have HRL : Hid (putL xs node now = ys.take k ++ [(⟨node, now⟩ : LD)] ++ ys.drop k) := by
                      show _ = _
                      rw [HRL0.out]
                      unfold insL
                      rw [HW.out.1, HW.out.2, List.append_assoc]; rfl
                    have HT1 : Hid ((ys.take k).length = k) := by show _ = _; rw [List.length_take, HM.out]; omega
                    have HT2 : Hid ((ys.drop k).length = m - k) := by show _ = _; rw [List.length_drop, HM.out]
                    have HL1 : Hid ((ys.take k ++ [(⟨node, now⟩ : LD)]).length = k + 1) := by show _ = _; rw [List.length_append, HT1.out]; rfl
                    have HSP : Hid ((ys.take k ++ [(⟨node, now⟩ : LD)] ++ ys.drop k).length = m + 1) := by show _ = _; rw [List.length_append, HL1.out, HT2.out]; omega
                    have HD : Hid (∀ U, Below wB.heap.size wB U → RowAt LK U U.heap.size (if y = k then some ⟨X', 0, none⟩ else some ⟨X', k * 2, none⟩) (ys.drop k)) := fun U hU => by
                      by_cases he : y = k
                      · have h0 : ys.drop k = [] := List.eq_nil_of_length_eq_zero (by rw [HT2.out]; omega)
                        rw [h0]; exact RowAt.nil
                      · have h0 := rowL_drop (HRW.out U hU) k
                        rw [Nat.zero_add] at h0
                        rw [if_neg he]; exact h0
                    have hki1 : (k : Int) ≤ (m : Int) := by omega
                    have hkx : (k : Int) ≤ (y : Int) := by omega
                    have hktn : ((k : Int)).toNat = k := Int.toNat_natCast k
                    have hk7 : k ≤ 8 := by omega
                    by_cases hlt : k < m
                    · have hkz : k < ys.length := by rw [HM.out]; exact hlt
                      have c0 := (HRW.out _ (Below.refl _ _) |> fun r => lis_cells r k hkz).1
                      rw [Nat.zero_add] at c0
                      have hge : ¬ (lth ys k).n < node := fun h => hgo ⟨hlt, decide_eq_true h⟩
                      obtain ⟨vn, HVN⟩ : ∃ v, Hid ((lth ys k).n = v) := ⟨_, rfl⟩
                      rw [HVN.out] at c0 hge
                      have hki : (k : Int) < (m : Int) := by omega
                      have hkd : decide (k < m) = true := decide_eq_true hlt
                      have hnd : decide (vn < node) = false := decide_eq_false hge
                      have hnl : node ≤ vn := by omega
                      clear hgo hkz hge
                      go_wp2_with fail
                      refine wp_region_held_drew (S := (fun _ => True)) (by kernel_rfl) (trivial) (fun hHeld => ?_)
                      obtain ⟨V0, HVE⟩ : ∃ U, Hid (wB.drew = U) := ⟨_, rfl⟩
                      have HV0 : Hid (Below wB.heap.size wB V0) := by rw [← HVE.out]; exact below_drew (Below.refl _ _)
                      rw [HVE.out]
                      refine wpAnyH_take (i := 1) (v := ?zv80001) rfl (by kernel_rfl) (by kernel_rfl) (by kernel_rfl) (fun _ _ _ h => h) (Or.inl ⟨by kernel_rfl, ?zy80001⟩) (by assumption) ?zr80001
                      case zy80001 => (intro w hSw; (try dsimp only at hSw); go_simp; try with_reducible rfl)
                      change wpAnyH _ _ _ _ _ _ _ (Act.put _ (some 79) _) _
                      simp only [Act.put, List.setIfInBounds_toArray, List.set_cons_zero, List.set_cons_succ]
                      refine wpAnyH_take (i := 2) (v := ?zv80002) rfl (by kernel_rfl) (by kernel_rfl) (by kernel_rfl) (fun _ _ _ h => h) (Or.inl ⟨by kernel_rfl, ?zy80002⟩) (by assumption) ?zr80002
                      case zy80002 => (intro w hSw; (try dsimp only at hSw); go_simp; try with_reducible rfl)
                      change wpAnyH _ _ _ _ _ _ _ (Act.put _ (some 80) _) _
                      simp only [Act.put, List.setIfInBounds_toArray, List.set_cons_zero, List.set_cons_succ]
                      refine wpAnyH_take (i := 5) (v := ?zv80003) rfl (by kernel_rfl) (by kernel_rfl) (by kernel_rfl) (fun _ _ _ h => h) (Or.inl ⟨by kernel_rfl, ?zy80003⟩) (by assumption) ?zr80003
                      case zy80003 => (intro w hSw; (try dsimp only at hSw); go_simp; try with_reducible rfl)
                      change wpAnyH _ _ _ _ _ _ _ (Act.put _ (some 83) _) _
                      simp only [Act.put, List.setIfInBounds_toArray, List.set_cons_zero, List.set_cons_succ]
                      refine wpAnyH_take (i := 6) (v := ?zv80004) rfl (by kernel_rfl) (by kernel_rfl) (by kernel_rfl) (fun _ _ _ h => h) (Or.inl ⟨by kernel_rfl, ?zy80004⟩) (by assumption) ?zr80004
                      case zy80004 => (intro w hSw; (try dsimp only at hSw); go_simp; try with_reducible rfl)
                      change wpAnyH _ _ _ _ _ _ _ (Act.put _ (some 84) _) _
                      simp only [Act.put, List.setIfInBounds_toArray, List.set_cons_zero, List.set_cons_succ]
                      refine wpAnyH_take (i := 10) (v := ?zv80005) rfl (by kernel_rfl) (by kernel_rfl) (by kernel_rfl) (fun _ _ _ h => h) (Or.inl ⟨by kernel_rfl, ?zy80005⟩) (by assumption) ?zr80005
                      case zy80005 => (intro w hSw; (try dsimp only at hSw); go_simp; try with_reducible rfl)
                      change wpAnyH _ _ _ _ _ _ _ (Act.put _ (some 88) _) _
                      simp only [Act.put, List.setIfInBounds_toArray, List.set_cons_zero, List.set_cons_succ]
                      refine wpAnyH_take (i := 11) (v := ?zv80006) rfl (by kernel_rfl) (by kernel_rfl) (by kernel_rfl) (fun _ _ _ h => h) (Or.inl ⟨by kernel_rfl, ?zy80006⟩) (by assumption) ?zr80006
                      case zy80006 => (intro w hSw; (try dsimp only at hSw); go_simp; try with_reducible rfl)
                      change wpAnyH _ _ _ _ _ _ _ (Act.put _ (some 89) _) _
                      simp only [Act.put, List.setIfInBounds_toArray, List.set_cons_zero, List.set_cons_succ]
                      refine wpAnyH_take (i := 3) (v := ?zv80007) rfl (by kernel_rfl) (by kernel_rfl) (by kernel_rfl) (fun _ _ _ h => h) (Or.inl ⟨by kernel_rfl, ?zy80007⟩) (by assumption) ?zr80007
                      case zy80007 => (intro w hSw; (try dsimp only at hSw); go_simp; try with_reducible rfl)
                      change wpAnyH _ _ _ _ _ _ _ (Act.put _ (some 81) _) _
                      simp only [Act.put, List.setIfInBounds_toArray, List.set_cons_zero, List.set_cons_succ]
                      refine wpAnyH_take (i := 7) (v := ?zv80008) rfl (by kernel_rfl) (by kernel_rfl) (by kernel_rfl) (fun _ _ _ h => h) (Or.inl ⟨by kernel_rfl, ?zy80008⟩) (by assumption) ?zr80008
                      case zy80008 => (intro w hSw; (try dsimp only at hSw); go_simp; try with_reducible rfl)
                      change wpAnyH _ _ _ _ _ _ _ (Act.put _ (some 85) _) _
                      simp only [Act.put, List.setIfInBounds_toArray, List.set_cons_zero, List.set_cons_succ]
                      refine wpAnyH_take (i := 12) (v := ?zv80009) rfl (by kernel_rfl) (by kernel_rfl) (by kernel_rfl) (fun _ _ _ h => h) (Or.inl ⟨by kernel_rfl, ?zy80009⟩) (by assumption) ?zr80009
                      case zy80009 => (intro w hSw; (try dsimp only at hSw); go_simp; try with_reducible rfl)
                      change wpAnyH _ _ _ _ _ _ _ (Act.put _ (some 90) _) _
                      simp only [Act.put, List.setIfInBounds_toArray, List.set_cons_zero, List.set_cons_succ]
                      refine wpAnyH_ready (rs := [0, 8]) (by kernel_rfl) (by simp) (AllReadyH.cons rfl (fun K hK => ?zo80010_0) (AllReadyH.cons rfl (fun K hK => ?zo80010_1) AllReadyH.nil))
                      case zo80010_0 =>
                        go_simp
                        refine hK.out _ _ (trivial) (fun hHeld => ?_)
                        clear hK K
                        (try simp only [Act.put, List.setIfInBounds_toArray, List.set_cons_zero, List.set_cons_succ])
                        obtain ⟨V1, EV1⟩ : ∃ U, Hid (V0.alloc (.cells #[] 41) = U) := ⟨_, rfl⟩
                        have hc1 : Below V0.heap.size V0 V1 := by rw [← EV1.out]; exact (Below.refl _ _).alloc (Nat.le_refl _) _
                        have HV1 : Hid (Below wB.heap.size wB V1) := HV0.out.trans (hc1.mono HV0.out.size)
                        have FF1 : Hid (OwnRow LK V1 wB.heap.size (some ⟨V0.heap.size, 0, none⟩) 0 []) := by rw [← EV1.out]; exact (OwnRow.new LK V0).base_le HV0.out.size
                        clear hc1
                        rw [EV1.out]
                        refine wpAnyH_ready (rs := [4, 8]) (by kernel_rfl) (by simp) (AllReadyH.cons rfl (fun K hK => ?zo80011_0) (AllReadyH.cons rfl (fun K hK => ?zo80011_1) AllReadyH.nil))
                        case zo80011_0 =>
                          refine step_app_row (K := LK) Try.underlying25 HI0.out.1 HI0.out.2.1 HI0.out.2.2.1 HI0.out.2.2.2.1 HI0.out.2.2.2.2 (by decide) rfl (.tmp 78) (.tmp 81) rfl V1 wB.heap.size (some ⟨V0.heap.size, 0, none⟩) 0 [] rfl (some ⟨X', 0, none⟩) y (ys.take k) (by rw [HT1.out]; rfl) FF1.out ((HRW.out V1 HV1.out).first k) (by rw [HT1.out]; simp; omega) HV1.out.size (fun e => by cases e) ?_
                          intro v5 V2 hA
                          obtain ⟨F1, f1, rfl, ho5⟩ := hA.at0
                          have HV2 : Hid (Below wB.heap.size wB V2) := HV1.out.trans hA.below
                          rw [List.nil_append] at ho5 ⊢
                          have FF2 := Lib.hid ho5
                          clear hA ho5
                          rw [HT1.out]
                          refine hK.out _ _ (trivial) (fun hHeld => ?_)
                          clear hK K
                          change wpAnyH _ _ _ _ _ _ _ (Act.put _ (some 82) _) _
                          simp only [Act.put, List.setIfInBounds_toArray, List.set_cons_zero, List.set_cons_succ]
                          refine wpAnyH_ready (rs := [8]) (by kernel_rfl) (by simp) (AllReadyH.cons rfl (fun K hK => ?zo80012_0) AllReadyH.nil)
                          case zo80012_0 =>
                            go_simp
                            refine hK.out _ _ (trivial) (fun hHeld => ?_)
                            clear hK K
                            (try simp only [Act.put, List.setIfInBounds_toArray, List.set_cons_zero, List.set_cons_succ])
                            obtain ⟨V3, EV3⟩ : ∃ U, Hid (V2.alloc (.cells #[.int .i64 node, .int .i64 now] 41) = U) := ⟨_, rfl⟩
                            have hc3 : Below V2.heap.size V2 V3 := by rw [← EV3.out]; exact (Below.refl _ _).alloc (Nat.le_refl _) _
                            have HV3 : Hid (Below wB.heap.size wB V3) := HV2.out.trans (hc3.mono HV2.out.size)
                            have FF3 := Lib.hid (FF2.out.below hc3)
                            have GG3 : Hid (RowAt LK V3 V3.heap.size (some ⟨V2.heap.size, 0, none⟩) [(⟨node, now⟩ : LD)]) := by rw [← EV3.out]; exact one_newR LK V2 ⟨node, now⟩ _
                            clear hc3
                            rw [EV3.out]
                            refine wpAnyH_ready (rs := [9]) (by kernel_rfl) (by simp) (AllReadyH.cons rfl (fun K hK => ?zo80013_0) AllReadyH.nil)
                            case zo80013_0 =>
                              refine step_app_row (K := LK) Try.underlying25 HI0.out.1 HI0.out.2.1 HI0.out.2.2.1 HI0.out.2.2.2.1 HI0.out.2.2.2.2 (by decide) rfl (.tmp 82) (.tmp 86) rfl V3 wB.heap.size (some ⟨F1, 0, none⟩) f1 (ys.take k) (by rw [HT1.out]; rfl) (some ⟨V2.heap.size, 0, none⟩) 1 [(⟨node, now⟩ : LD)] rfl FF3.out GG3.out (by rw [HT1.out]; simp; omega) HV3.out.size (fun e => by cases e) ?_
                              intro v5 V4 hA
                              obtain ⟨F2, f2, rfl, ho5⟩ := hA.at0
                              have HV4 : Hid (Below wB.heap.size wB V4) := HV3.out.trans hA.below
                              have FF4 := Lib.hid ho5
                              clear hA ho5
                              rw [HL1.out]
                              refine hK.out _ _ (trivial) (fun hHeld => ?_)
                              clear hK K
                              change wpAnyH _ _ _ _ _ _ _ (Act.put _ (some 87) _) _
                              simp only [Act.put, List.setIfInBounds_toArray, List.set_cons_zero, List.set_cons_succ]
                              refine wpAnyH_ready (rs := [13]) (by kernel_rfl) (by simp) (AllReadyH.cons rfl (fun K hK => ?zo80014_0) AllReadyH.nil)
                              case zo80014_0 =>
                                refine step_app_row (K := LK) Try.underlying25 HI0.out.1 HI0.out.2.1 HI0.out.2.2.1 HI0.out.2.2.2.1 HI0.out.2.2.2.2 (by decide) rfl (.tmp 87) (.tmp 90) rfl V4 wB.heap.size (some ⟨F2, 0, none⟩) f2 (ys.take k ++ [(⟨node, now⟩ : LD)]) (by rw [HL1.out]; rfl) (if y = k then some ⟨X', 0, none⟩ else some ⟨X', k * 2, none⟩) (y - k) (ys.drop k) (by rw [HT2.out]; rfl) FF4.out (HD.out V4 HV4.out) (by rw [HL1.out, HT2.out]; omega) HV4.out.size (fun e => by split at e <;> cases e) ?_
                                intro v5 V5 hA
                                obtain ⟨F3, f3, rfl, ho5⟩ := hA.at0
                                have HV5 : Hid (Below wB.heap.size wB V5) := HV4.out.trans hA.below
                                have FF5 := Lib.hid ho5
                                clear hA ho5
                                rw [HSP.out]
                                refine hK.out _ _ (trivial) (fun hHeld => ?_)
                                clear hK K
                                change wpAnyH _ _ _ _ _ _ _ (Act.put _ (some 91) _) _
                                simp only [Act.put, List.setIfInBounds_toArray, List.set_cons_zero, List.set_cons_succ]
                                refine wpAnyH_take (i := 14) (v := ?zv80015) rfl (by kernel_rfl) (by kernel_rfl) (by kernel_rfl) (fun _ _ _ h => h) (Or.inl ⟨by kernel_rfl, ?zy80015⟩) (by assumption) ?zr80015
                                case zy80015 => (intro w hSw; (try dsimp only at hSw); go_simp; try with_reducible rfl)
                                change wpAnyH _ _ _ _ _ _ _ (Act.put _ (some 6) _) _
                                simp only [Act.put, List.setIfInBounds_toArray, List.set_cons_zero, List.set_cons_succ]
                                refine wpAnyH_take (i := 15) (v := ?zv80016) rfl (by kernel_rfl) (by kernel_rfl) (by kernel_rfl) (fun _ _ _ h => h) (Or.inl ⟨by kernel_rfl, ?zy80016⟩) (by assumption) ?zr80016
                                case zy80016 => (intro w hSw; (try dsimp only at hSw); go_simp; try with_reducible rfl)
                                change wpAnyH _ _ _ _ _ _ _ (Act.put _ (some 7) _) _
                                simp only [Act.put, List.setIfInBounds_toArray, List.set_cons_zero, List.set_cons_succ]
                                refine wpAnyH_done (by kernel_rfl) ?_ _
                                have HBX : Hid (Below w.heap.size w V5) := HB.out.trans (HV5.out.mono HB.out.size)
                                go_wp2
                                all_goals (go_ret2; exact ⟨_, f3, by rw [HRL.out, HRO.out, HSP.out]; rfl, by rw [HRL.out]; exact (show OwnRow LK V5 w.heap.size _ _ _ from FF5.out.base_le HB.out.size), HBX.out⟩)
                        case zo80011_1 =>
                          go_simp
                          refine hK.out _ _ (trivial) (fun hHeld => ?_)
                          clear hK K
                          (try simp only [Act.put, List.setIfInBounds_toArray, List.set_cons_zero, List.set_cons_succ])
                          have hgap : V1.heap.size ≠ V0.heap.size := Nat.ne_of_gt (ownL_lt FF1.out)
                          obtain ⟨V2, EV2⟩ : ∃ U, Hid (V1.alloc (.cells #[.int .i64 node, .int .i64 now] 41) = U) := ⟨_, rfl⟩
                          have hc2 : Below V1.heap.size V1 V2 := by rw [← EV2.out]; exact (Below.refl _ _).alloc (Nat.le_refl _) _
                          have HV2 : Hid (Below wB.heap.size wB V2) := HV1.out.trans (hc2.mono HV1.out.size)
                          have FF2 := Lib.hid (FF1.out.below hc2)
                          have GG2 : Hid (RowAt LK V2 V2.heap.size (some ⟨V1.heap.size, 0, none⟩) [(⟨node, now⟩ : LD)]) := by rw [← EV2.out]; exact one_newR LK V1 ⟨node, now⟩ _
                          clear hc2
                          rw [EV2.out]
                          refine wpAnyH_ready (rs := [4]) (by kernel_rfl) (by simp) (AllReadyH.cons rfl (fun K hK => ?zo80017_0) AllReadyH.nil)
                          case zo80017_0 =>
                            refine step_app_row (K := LK) Try.underlying25 HI0.out.1 HI0.out.2.1 HI0.out.2.2.1 HI0.out.2.2.2.1 HI0.out.2.2.2.2 (by decide) rfl (.tmp 78) (.tmp 81) rfl V2 wB.heap.size (some ⟨V0.heap.size, 0, none⟩) 0 [] rfl (some ⟨X', 0, none⟩) y (ys.take k) (by rw [HT1.out]; rfl) FF2.out ((HRW.out V2 HV2.out).first k) (by rw [HT1.out]; simp; omega) HV2.out.size (fun e => by cases e) ?_
                            intro v5 V3 hA
                            obtain ⟨F1, f1, rfl, ho5⟩ := hA.at0
                            have HV3 : Hid (Below wB.heap.size wB V3) := HV2.out.trans hA.below
                            have GG3 := Lib.hid (oneL_kept GG2.out hA.grown hgap)
                            rw [List.nil_append] at ho5 ⊢
                            have FF3 := Lib.hid ho5
                            clear hA ho5
                            rw [HT1.out]
                            refine hK.out _ _ (trivial) (fun hHeld => ?_)
                            clear hK K
                            change wpAnyH _ _ _ _ _ _ _ (Act.put _ (some 82) _) _
                            simp only [Act.put, List.setIfInBounds_toArray, List.set_cons_zero, List.set_cons_succ]
                            refine wpAnyH_ready (rs := [9]) (by kernel_rfl) (by simp) (AllReadyH.cons rfl (fun K hK => ?zo80018_0) AllReadyH.nil)
                            case zo80018_0 =>
                              refine step_app_row (K := LK) Try.underlying25 HI0.out.1 HI0.out.2.1 HI0.out.2.2.1 HI0.out.2.2.2.1 HI0.out.2.2.2.2 (by decide) rfl (.tmp 82) (.tmp 86) rfl V3 wB.heap.size (some ⟨F1, 0, none⟩) f1 (ys.take k) (by rw [HT1.out]; rfl) (some ⟨V1.heap.size, 0, none⟩) 1 [(⟨node, now⟩ : LD)] rfl FF3.out GG3.out (by rw [HT1.out]; simp; omega) HV3.out.size (fun e => by cases e) ?_
                              intro v5 V4 hA
                              obtain ⟨F2, f2, rfl, ho5⟩ := hA.at0
                              have HV4 : Hid (Below wB.heap.size wB V4) := HV3.out.trans hA.below
                              have FF4 := Lib.hid ho5
                              clear hA ho5
                              rw [HL1.out]
                              refine hK.out _ _ (trivial) (fun hHeld => ?_)
                              clear hK K
                              change wpAnyH _ _ _ _ _ _ _ (Act.put _ (some 87) _) _
                              simp only [Act.put, List.setIfInBounds_toArray, List.set_cons_zero, List.set_cons_succ]
                              refine wpAnyH_ready (rs := [13]) (by kernel_rfl) (by simp) (AllReadyH.cons rfl (fun K hK => ?zo80019_0) AllReadyH.nil)
                              case zo80019_0 =>
                                refine step_app_row (K := LK) Try.underlying25 HI0.out.1 HI0.out.2.1 HI0.out.2.2.1 HI0.out.2.2.2.1 HI0.out.2.2.2.2 (by decide) rfl (.tmp 87) (.tmp 90) rfl V4 wB.heap.size (some ⟨F2, 0, none⟩) f2 (ys.take k ++ [(⟨node, now⟩ : LD)]) (by rw [HL1.out]; rfl) (if y = k then some ⟨X', 0, none⟩ else some ⟨X', k * 2, none⟩) (y - k) (ys.drop k) (by rw [HT2.out]; rfl) FF4.out (HD.out V4 HV4.out) (by rw [HL1.out, HT2.out]; omega) HV4.out.size (fun e => by split at e <;> cases e) ?_
                                intro v5 V5 hA
                                obtain ⟨F3, f3, rfl, ho5⟩ := hA.at0
                                have HV5 : Hid (Below wB.heap.size wB V5) := HV4.out.trans hA.below
                                have FF5 := Lib.hid ho5
                                clear hA ho5
                                rw [HSP.out]
                                refine hK.out _ _ (trivial) (fun hHeld => ?_)
                                clear hK K
                                change wpAnyH _ _ _ _ _ _ _ (Act.put _ (some 91) _) _
                                simp only [Act.put, List.setIfInBounds_toArray, List.set_cons_zero, List.set_cons_succ]
                                refine wpAnyH_take (i := 14) (v := ?zv80020) rfl (by kernel_rfl) (by kernel_rfl) (by kernel_rfl) (fun _ _ _ h => h) (Or.inl ⟨by kernel_rfl, ?zy80020⟩) (by assumption) ?zr80020
                                case zy80020 => (intro w hSw; (try dsimp only at hSw); go_simp; try with_reducible rfl)
                                change wpAnyH _ _ _ _ _ _ _ (Act.put _ (some 6) _) _
                                simp only [Act.put, List.setIfInBounds_toArray, List.set_cons_zero, List.set_cons_succ]
                                refine wpAnyH_take (i := 15) (v := ?zv80021) rfl (by kernel_rfl) (by kernel_rfl) (by kernel_rfl) (fun _ _ _ h => h) (Or.inl ⟨by kernel_rfl, ?zy80021⟩) (by assumption) ?zr80021
                                case zy80021 => (intro w hSw; (try dsimp only at hSw); go_simp; try with_reducible rfl)
                                change wpAnyH _ _ _ _ _ _ _ (Act.put _ (some 7) _) _
                                simp only [Act.put, List.setIfInBounds_toArray, List.set_cons_zero, List.set_cons_succ]
                                refine wpAnyH_done (by kernel_rfl) ?_ _
                                have HBX : Hid (Below w.heap.size w V5) := HB.out.trans (HV5.out.mono HB.out.size)
                                go_wp2
                                all_goals (go_ret2; exact ⟨_, f3, by rw [HRL.out, HRO.out, HSP.out]; rfl, by rw [HRL.out]; exact (show OwnRow LK V5 w.heap.size _ _ _ from FF5.out.base_le HB.out.size), HBX.out⟩)
                      case zo80010_1 =>
                        go_simp
                        refine hK.out _ _ (trivial) (fun hHeld => ?_)
                        clear hK K
                        (try simp only [Act.put, List.setIfInBounds_toArray, List.set_cons_zero, List.set_cons_succ])
                        obtain ⟨V1, EV1⟩ : ∃ U, Hid (V0.alloc (.cells #[.int .i64 node, .int .i64 now] 41) = U) := ⟨_, rfl⟩
                        have hc1 : Below V0.heap.size V0 V1 := by rw [← EV1.out]; exact (Below.refl _ _).alloc (Nat.le_refl _) _
                        have HV1 : Hid (Below wB.heap.size wB V1) := HV0.out.trans (hc1.mono HV0.out.size)
                        have GG1 : Hid (RowAt LK V1 V1.heap.size (some ⟨V0.heap.size, 0, none⟩) [(⟨node, now⟩ : LD)]) := by rw [← EV1.out]; exact one_newR LK V0 ⟨node, now⟩ _
                        clear hc1
                        rw [EV1.out]
                        refine wpAnyH_ready (rs := [0]) (by kernel_rfl) (by simp) (AllReadyH.cons rfl (fun K hK => ?zo80022_0) AllReadyH.nil)
                        case zo80022_0 =>
                          go_simp
                          refine hK.out _ _ (trivial) (fun hHeld => ?_)
                          clear hK K
                          (try simp only [Act.put, List.setIfInBounds_toArray, List.set_cons_zero, List.set_cons_succ])
                          have hgap : V0.heap.size ≠ V1.heap.size := Nat.ne_of_lt (GG1.out.lt (Nat.succ_pos 0)).1
                          obtain ⟨V2, EV2⟩ : ∃ U, Hid (V1.alloc (.cells #[] 41) = U) := ⟨_, rfl⟩
                          have hc2 : Below V1.heap.size V1 V2 := by rw [← EV2.out]; exact (Below.refl _ _).alloc (Nat.le_refl _) _
                          have HV2 : Hid (Below wB.heap.size wB V2) := HV1.out.trans (hc2.mono HV1.out.size)
                          have GG2 := Lib.hid (GG1.out.belowS hc2)
                          have FF2 : Hid (OwnRow LK V2 wB.heap.size (some ⟨V1.heap.size, 0, none⟩) 0 []) := by rw [← EV2.out]; exact (OwnRow.new LK V1).base_le HV1.out.size
                          clear hc2
                          rw [EV2.out]
                          refine wpAnyH_ready (rs := [4]) (by kernel_rfl) (by simp) (AllReadyH.cons rfl (fun K hK => ?zo80023_0) AllReadyH.nil)
                          case zo80023_0 =>
                            refine step_app_row (K := LK) Try.underlying25 HI0.out.1 HI0.out.2.1 HI0.out.2.2.1 HI0.out.2.2.2.1 HI0.out.2.2.2.2 (by decide) rfl (.tmp 78) (.tmp 81) rfl V2 wB.heap.size (some ⟨V1.heap.size, 0, none⟩) 0 [] rfl (some ⟨X', 0, none⟩) y (ys.take k) (by rw [HT1.out]; rfl) FF2.out ((HRW.out V2 HV2.out).first k) (by rw [HT1.out]; simp; omega) HV2.out.size (fun e => by cases e) ?_
                            intro v5 V3 hA
                            obtain ⟨F1, f1, rfl, ho5⟩ := hA.at0
                            have HV3 : Hid (Below wB.heap.size wB V3) := HV2.out.trans hA.below
                            have GG3 := Lib.hid (oneL_kept GG2.out hA.grown hgap)
                            rw [List.nil_append] at ho5 ⊢
                            have FF3 := Lib.hid ho5
                            clear hA ho5
                            rw [HT1.out]
                            refine hK.out _ _ (trivial) (fun hHeld => ?_)
                            clear hK K
                            change wpAnyH _ _ _ _ _ _ _ (Act.put _ (some 82) _) _
                            simp only [Act.put, List.setIfInBounds_toArray, List.set_cons_zero, List.set_cons_succ]
                            refine wpAnyH_ready (rs := [9]) (by kernel_rfl) (by simp) (AllReadyH.cons rfl (fun K hK => ?zo80024_0) AllReadyH.nil)
                            case zo80024_0 =>
                              refine step_app_row (K := LK) Try.underlying25 HI0.out.1 HI0.out.2.1 HI0.out.2.2.1 HI0.out.2.2.2.1 HI0.out.2.2.2.2 (by decide) rfl (.tmp 82) (.tmp 86) rfl V3 wB.heap.size (some ⟨F1, 0, none⟩) f1 (ys.take k) (by rw [HT1.out]; rfl) (some ⟨V0.heap.size, 0, none⟩) 1 [(⟨node, now⟩ : LD)] rfl FF3.out GG3.out (by rw [HT1.out]; simp; omega) HV3.out.size (fun e => by cases e) ?_
                              intro v5 V4 hA
                              obtain ⟨F2, f2, rfl, ho5⟩ := hA.at0
                              have HV4 : Hid (Below wB.heap.size wB V4) := HV3.out.trans hA.below
                              have FF4 := Lib.hid ho5
                              clear hA ho5
                              rw [HL1.out]
                              refine hK.out _ _ (trivial) (fun hHeld => ?_)
                              clear hK K
                              change wpAnyH _ _ _ _ _ _ _ (Act.put _ (some 87) _) _
                              simp only [Act.put, List.setIfInBounds_toArray, List.set_cons_zero, List.set_cons_succ]
                              refine wpAnyH_ready (rs := [13]) (by kernel_rfl) (by simp) (AllReadyH.cons rfl (fun K hK => ?zo80025_0) AllReadyH.nil)
                              case zo80025_0 =>
                                refine step_app_row (K := LK) Try.underlying25 HI0.out.1 HI0.out.2.1 HI0.out.2.2.1 HI0.out.2.2.2.1 HI0.out.2.2.2.2 (by decide) rfl (.tmp 87) (.tmp 90) rfl V4 wB.heap.size (some ⟨F2, 0, none⟩) f2 (ys.take k ++ [(⟨node, now⟩ : LD)]) (by rw [HL1.out]; rfl) (if y = k then some ⟨X', 0, none⟩ else some ⟨X', k * 2, none⟩) (y - k) (ys.drop k) (by rw [HT2.out]; rfl) FF4.out (HD.out V4 HV4.out) (by rw [HL1.out, HT2.out]; omega) HV4.out.size (fun e => by split at e <;> cases e) ?_
                                intro v5 V5 hA
                                obtain ⟨F3, f3, rfl, ho5⟩ := hA.at0
                                have HV5 : Hid (Below wB.heap.size wB V5) := HV4.out.trans hA.below
                                have FF5 := Lib.hid ho5
                                clear hA ho5
                                rw [HSP.out]
                                refine hK.out _ _ (trivial) (fun hHeld => ?_)
                                clear hK K
                                change wpAnyH _ _ _ _ _ _ _ (Act.put _ (some 91) _) _
                                simp only [Act.put, List.setIfInBounds_toArray, List.set_cons_zero, List.set_cons_succ]
                                refine wpAnyH_take (i := 14) (v := ?zv80026) rfl (by kernel_rfl) (by kernel_rfl) (by kernel_rfl) (fun _ _ _ h => h) (Or.inl ⟨by kernel_rfl, ?zy80026⟩) (by assumption) ?zr80026
                                case zy80026 => (intro w hSw; (try dsimp only at hSw); go_simp; try with_reducible rfl)
                                change wpAnyH _ _ _ _ _ _ _ (Act.put _ (some 6) _) _
                                simp only [Act.put, List.setIfInBounds_toArray, List.set_cons_zero, List.set_cons_succ]
                                refine wpAnyH_take (i := 15) (v := ?zv80027) rfl (by kernel_rfl) (by kernel_rfl) (by kernel_rfl) (fun _ _ _ h => h) (Or.inl ⟨by kernel_rfl, ?zy80027⟩) (by assumption) ?zr80027
                                case zy80027 => (intro w hSw; (try dsimp only at hSw); go_simp; try with_reducible rfl)
                                change wpAnyH _ _ _ _ _ _ _ (Act.put _ (some 7) _) _
                                simp only [Act.put, List.setIfInBounds_toArray, List.set_cons_zero, List.set_cons_succ]
                                refine wpAnyH_done (by kernel_rfl) ?_ _
                                have HBX : Hid (Below w.heap.size w V5) := HB.out.trans (HV5.out.mono HB.out.size)
                                go_wp2
                                all_goals (go_ret2; exact ⟨_, f3, by rw [HRL.out, HRO.out, HSP.out]; rfl, by rw [HRL.out]; exact (show OwnRow LK V5 w.heap.size _ _ _ from FF5.out.base_le HB.out.size), HBX.out⟩)
                    · have hki : ¬ (k : Int) < (m : Int) := by omega
                      have hkd : decide (k < m) = false := decide_eq_false hlt
                      have hmk : m ≤ k := by omega
                      have HT2z : Hid ((ys.drop k).length = 0) := by show _ = _; rw [HT2.out]; omega
                      clear hgo
                      go_wp2_with fail
                      refine wp_region_held_drew (S := (fun _ => True)) (by kernel_rfl) (trivial) (fun hHeld => ?_)
                      obtain ⟨V0, HVE⟩ : ∃ U, Hid (wB.drew = U) := ⟨_, rfl⟩
                      have HV0 : Hid (Below wB.heap.size wB V0) := by rw [← HVE.out]; exact below_drew (Below.refl _ _)
                      rw [HVE.out]
                      refine wpAnyH_take (i := 1) (v := ?zv80028) rfl (by kernel_rfl) (by kernel_rfl) (by kernel_rfl) (fun _ _ _ h => h) (Or.inl ⟨by kernel_rfl, ?zy80028⟩) (by assumption) ?zr80028
                      case zy80028 => (intro w hSw; (try dsimp only at hSw); go_simp; try with_reducible rfl)
                      change wpAnyH _ _ _ _ _ _ _ (Act.put _ (some 79) _) _
                      simp only [Act.put, List.setIfInBounds_toArray, List.set_cons_zero, List.set_cons_succ]
                      refine wpAnyH_take (i := 2) (v := ?zv80029) rfl (by kernel_rfl) (by kernel_rfl) (by kernel_rfl) (fun _ _ _ h => h) (Or.inl ⟨by kernel_rfl, ?zy80029⟩) (by assumption) ?zr80029
                      case zy80029 => (intro w hSw; (try dsimp only at hSw); go_simp; try with_reducible rfl)
                      change wpAnyH _ _ _ _ _ _ _ (Act.put _ (some 80) _) _
                      simp only [Act.put, List.setIfInBounds_toArray, List.set_cons_zero, List.set_cons_succ]
                      refine wpAnyH_take (i := 5) (v := ?zv80030) rfl (by kernel_rfl) (by kernel_rfl) (by kernel_rfl) (fun _ _ _ h => h) (Or.inl ⟨by kernel_rfl, ?zy80030⟩) (by assumption) ?zr80030
                      case zy80030 => (intro w hSw; (try dsimp only at hSw); go_simp; try with_reducible rfl)
                      change wpAnyH _ _ _ _ _ _ _ (Act.put _ (some 83) _) _
                      simp only [Act.put, List.setIfInBounds_toArray, List.set_cons_zero, List.set_cons_succ]
                      refine wpAnyH_take (i := 6) (v := ?zv80031) rfl (by kernel_rfl) (by kernel_rfl) (by kernel_rfl) (fun _ _ _ h => h) (Or.inl ⟨by kernel_rfl, ?zy80031⟩) (by assumption) ?zr80031
                      case zy80031 => (intro w hSw; (try dsimp only at hSw); go_simp; try with_reducible rfl)
                      change wpAnyH _ _ _ _ _ _ _ (Act.put _ (some 84) _) _
                      simp only [Act.put, List.setIfInBounds_toArray, List.set_cons_zero, List.set_cons_succ]
                      refine wpAnyH_take (i := 10) (v := ?zv80032) rfl (by kernel_rfl) (by kernel_rfl) (by kernel_rfl) (fun _ _ _ h => h) (Or.inl ⟨by kernel_rfl, ?zy80032⟩) (by assumption) ?zr80032
                      case zy80032 => (intro w hSw; (try dsimp only at hSw); go_simp; try with_reducible rfl)
                      change wpAnyH _ _ _ _ _ _ _ (Act.put _ (some 88) _) _
                      simp only [Act.put, List.setIfInBounds_toArray, List.set_cons_zero, List.set_cons_succ]
                      refine wpAnyH_take (i := 11) (v := ?zv80033) rfl (by kernel_rfl) (by kernel_rfl) (by kernel_rfl) (fun _ _ _ h => h) (Or.inl ⟨by kernel_rfl, ?zy80033⟩) (by assumption) ?zr80033
                      case zy80033 => (intro w hSw; (try dsimp only at hSw); go_simp; try with_reducible rfl)
                      change wpAnyH _ _ _ _ _ _ _ (Act.put _ (some 89) _) _
                      simp only [Act.put, List.setIfInBounds_toArray, List.set_cons_zero, List.set_cons_succ]
                      refine wpAnyH_take (i := 3) (v := ?zv80034) rfl (by kernel_rfl) (by kernel_rfl) (by kernel_rfl) (fun _ _ _ h => h) (Or.inl ⟨by kernel_rfl, ?zy80034⟩) (by assumption) ?zr80034
                      case zy80034 => (intro w hSw; (try dsimp only at hSw); go_simp; try with_reducible rfl)
                      change wpAnyH _ _ _ _ _ _ _ (Act.put _ (some 81) _) _
                      simp only [Act.put, List.setIfInBounds_toArray, List.set_cons_zero, List.set_cons_succ]
                      refine wpAnyH_take (i := 7) (v := ?zv80035) rfl (by kernel_rfl) (by kernel_rfl) (by kernel_rfl) (fun _ _ _ h => h) (Or.inl ⟨by kernel_rfl, ?zy80035⟩) (by assumption) ?zr80035
                      case zy80035 => (intro w hSw; (try dsimp only at hSw); go_simp; try with_reducible rfl)
                      change wpAnyH _ _ _ _ _ _ _ (Act.put _ (some 85) _) _
                      simp only [Act.put, List.setIfInBounds_toArray, List.set_cons_zero, List.set_cons_succ]
                      refine wpAnyH_take (i := 12) (v := ?zv80036) rfl (by kernel_rfl) (by kernel_rfl) (by kernel_rfl) (fun _ _ _ h => h) (Or.inl ⟨by kernel_rfl, ?zy80036⟩) (by assumption) ?zr80036
                      case zy80036 => (intro w hSw; (try dsimp only at hSw); go_simp; try with_reducible rfl)
                      change wpAnyH _ _ _ _ _ _ _ (Act.put _ (some 90) _) _
                      simp only [Act.put, List.setIfInBounds_toArray, List.set_cons_zero, List.set_cons_succ]
                      refine wpAnyH_ready (rs := [0, 8]) (by kernel_rfl) (by simp) (AllReadyH.cons rfl (fun K hK => ?zo80037_0) (AllReadyH.cons rfl (fun K hK => ?zo80037_1) AllReadyH.nil))
                      case zo80037_0 =>
                        go_simp
                        refine hK.out _ _ (trivial) (fun hHeld => ?_)
                        clear hK K
                        (try simp only [Act.put, List.setIfInBounds_toArray, List.set_cons_zero, List.set_cons_succ])
                        obtain ⟨V1, EV1⟩ : ∃ U, Hid (V0.alloc (.cells #[] 41) = U) := ⟨_, rfl⟩
                        have hc1 : Below V0.heap.size V0 V1 := by rw [← EV1.out]; exact (Below.refl _ _).alloc (Nat.le_refl _) _
                        have HV1 : Hid (Below wB.heap.size wB V1) := HV0.out.trans (hc1.mono HV0.out.size)
                        have FF1 : Hid (OwnRow LK V1 wB.heap.size (some ⟨V0.heap.size, 0, none⟩) 0 []) := by rw [← EV1.out]; exact (OwnRow.new LK V0).base_le HV0.out.size
                        clear hc1
                        rw [EV1.out]
                        refine wpAnyH_ready (rs := [4, 8]) (by kernel_rfl) (by simp) (AllReadyH.cons rfl (fun K hK => ?zo80038_0) (AllReadyH.cons rfl (fun K hK => ?zo80038_1) AllReadyH.nil))
                        case zo80038_0 =>
                          refine step_app_row (K := LK) Try.underlying25 HI0.out.1 HI0.out.2.1 HI0.out.2.2.1 HI0.out.2.2.2.1 HI0.out.2.2.2.2 (by decide) rfl (.tmp 78) (.tmp 81) rfl V1 wB.heap.size (some ⟨V0.heap.size, 0, none⟩) 0 [] rfl (some ⟨X', 0, none⟩) y (ys.take k) (by rw [HT1.out]; rfl) FF1.out ((HRW.out V1 HV1.out).first k) (by rw [HT1.out]; simp; omega) HV1.out.size (fun e => by cases e) ?_
                          intro v5 V2 hA
                          obtain ⟨F1, f1, rfl, ho5⟩ := hA.at0
                          have HV2 : Hid (Below wB.heap.size wB V2) := HV1.out.trans hA.below
                          rw [List.nil_append] at ho5 ⊢
                          have FF2 := Lib.hid ho5
                          clear hA ho5
                          rw [HT1.out]
                          refine hK.out _ _ (trivial) (fun hHeld => ?_)
                          clear hK K
                          change wpAnyH _ _ _ _ _ _ _ (Act.put _ (some 82) _) _
                          simp only [Act.put, List.setIfInBounds_toArray, List.set_cons_zero, List.set_cons_succ]
                          refine wpAnyH_ready (rs := [8]) (by kernel_rfl) (by simp) (AllReadyH.cons rfl (fun K hK => ?zo80039_0) AllReadyH.nil)
                          case zo80039_0 =>
                            go_simp
                            refine hK.out _ _ (trivial) (fun hHeld => ?_)
                            clear hK K
                            (try simp only [Act.put, List.setIfInBounds_toArray, List.set_cons_zero, List.set_cons_succ])
                            obtain ⟨V3, EV3⟩ : ∃ U, Hid (V2.alloc (.cells #[.int .i64 node, .int .i64 now] 41) = U) := ⟨_, rfl⟩
                            have hc3 : Below V2.heap.size V2 V3 := by rw [← EV3.out]; exact (Below.refl _ _).alloc (Nat.le_refl _) _
                            have HV3 : Hid (Below wB.heap.size wB V3) := HV2.out.trans (hc3.mono HV2.out.size)
                            have FF3 := Lib.hid (FF2.out.below hc3)
                            have GG3 : Hid (RowAt LK V3 V3.heap.size (some ⟨V2.heap.size, 0, none⟩) [(⟨node, now⟩ : LD)]) := by rw [← EV3.out]; exact one_newR LK V2 ⟨node, now⟩ _
                            clear hc3
                            rw [EV3.out]
                            refine wpAnyH_ready (rs := [9]) (by kernel_rfl) (by simp) (AllReadyH.cons rfl (fun K hK => ?zo80040_0) AllReadyH.nil)
                            case zo80040_0 =>
                              refine step_app_row (K := LK) Try.underlying25 HI0.out.1 HI0.out.2.1 HI0.out.2.2.1 HI0.out.2.2.2.1 HI0.out.2.2.2.2 (by decide) rfl (.tmp 82) (.tmp 86) rfl V3 wB.heap.size (some ⟨F1, 0, none⟩) f1 (ys.take k) (by rw [HT1.out]; rfl) (some ⟨V2.heap.size, 0, none⟩) 1 [(⟨node, now⟩ : LD)] rfl FF3.out GG3.out (by rw [HT1.out]; simp; omega) HV3.out.size (fun e => by cases e) ?_
                              intro v5 V4 hA
                              obtain ⟨F2, f2, rfl, ho5⟩ := hA.at0
                              have HV4 : Hid (Below wB.heap.size wB V4) := HV3.out.trans hA.below
                              have FF4 := Lib.hid ho5
                              clear hA ho5
                              rw [HL1.out]
                              refine hK.out _ _ (trivial) (fun hHeld => ?_)
                              clear hK K
                              change wpAnyH _ _ _ _ _ _ _ (Act.put _ (some 87) _) _
                              simp only [Act.put, List.setIfInBounds_toArray, List.set_cons_zero, List.set_cons_succ]
                              refine wpAnyH_ready (rs := [13]) (by kernel_rfl) (by simp) (AllReadyH.cons rfl (fun K hK => ?zo80041_0) AllReadyH.nil)
                              case zo80041_0 =>
                                refine step_app_row (K := LK) Try.underlying25 HI0.out.1 HI0.out.2.1 HI0.out.2.2.1 HI0.out.2.2.2.1 HI0.out.2.2.2.2 (by decide) rfl (.tmp 87) (.tmp 90) rfl V4 wB.heap.size (some ⟨F2, 0, none⟩) f2 (ys.take k ++ [(⟨node, now⟩ : LD)]) (by rw [HL1.out]; rfl) (if y = k then some ⟨X', 0, none⟩ else some ⟨X', k * 2, none⟩) (y - k) (ys.drop k) (by rw [HT2z.out]; rfl) FF4.out (HD.out V4 HV4.out) (by rw [HL1.out, HT2.out]; omega) HV4.out.size (fun e => by split at e <;> cases e) ?_
                                intro v5 V5 hA
                                obtain ⟨F3, f3, rfl, ho5⟩ := hA.at0
                                have HV5 : Hid (Below wB.heap.size wB V5) := HV4.out.trans hA.below
                                have FF5 := Lib.hid ho5
                                clear hA ho5
                                rw [HSP.out]
                                refine hK.out _ _ (trivial) (fun hHeld => ?_)
                                clear hK K
                                change wpAnyH _ _ _ _ _ _ _ (Act.put _ (some 91) _) _
                                simp only [Act.put, List.setIfInBounds_toArray, List.set_cons_zero, List.set_cons_succ]
                                refine wpAnyH_take (i := 14) (v := ?zv80042) rfl (by kernel_rfl) (by kernel_rfl) (by kernel_rfl) (fun _ _ _ h => h) (Or.inl ⟨by kernel_rfl, ?zy80042⟩) (by assumption) ?zr80042
                                case zy80042 => (intro w hSw; (try dsimp only at hSw); go_simp; try with_reducible rfl)
                                change wpAnyH _ _ _ _ _ _ _ (Act.put _ (some 6) _) _
                                simp only [Act.put, List.setIfInBounds_toArray, List.set_cons_zero, List.set_cons_succ]
                                refine wpAnyH_take (i := 15) (v := ?zv80043) rfl (by kernel_rfl) (by kernel_rfl) (by kernel_rfl) (fun _ _ _ h => h) (Or.inl ⟨by kernel_rfl, ?zy80043⟩) (by assumption) ?zr80043
                                case zy80043 => (intro w hSw; (try dsimp only at hSw); go_simp; try with_reducible rfl)
                                change wpAnyH _ _ _ _ _ _ _ (Act.put _ (some 7) _) _
                                simp only [Act.put, List.setIfInBounds_toArray, List.set_cons_zero, List.set_cons_succ]
                                refine wpAnyH_done (by kernel_rfl) ?_ _
                                have HBX : Hid (Below w.heap.size w V5) := HB.out.trans (HV5.out.mono HB.out.size)
                                go_wp2
                                all_goals (go_ret2; exact ⟨_, f3, by rw [HRL.out, HRO.out, HSP.out]; rfl, by rw [HRL.out]; exact (show OwnRow LK V5 w.heap.size _ _ _ from FF5.out.base_le HB.out.size), HBX.out⟩)
                        case zo80038_1 =>
                          go_simp
                          refine hK.out _ _ (trivial) (fun hHeld => ?_)
                          clear hK K
                          (try simp only [Act.put, List.setIfInBounds_toArray, List.set_cons_zero, List.set_cons_succ])
                          have hgap : V1.heap.size ≠ V0.heap.size := Nat.ne_of_gt (ownL_lt FF1.out)
                          obtain ⟨V2, EV2⟩ : ∃ U, Hid (V1.alloc (.cells #[.int .i64 node, .int .i64 now] 41) = U) := ⟨_, rfl⟩
                          have hc2 : Below V1.heap.size V1 V2 := by rw [← EV2.out]; exact (Below.refl _ _).alloc (Nat.le_refl _) _
                          have HV2 : Hid (Below wB.heap.size wB V2) := HV1.out.trans (hc2.mono HV1.out.size)
                          have FF2 := Lib.hid (FF1.out.below hc2)
                          have GG2 : Hid (RowAt LK V2 V2.heap.size (some ⟨V1.heap.size, 0, none⟩) [(⟨node, now⟩ : LD)]) := by rw [← EV2.out]; exact one_newR LK V1 ⟨node, now⟩ _
                          clear hc2
                          rw [EV2.out]
                          refine wpAnyH_ready (rs := [4]) (by kernel_rfl) (by simp) (AllReadyH.cons rfl (fun K hK => ?zo80044_0) AllReadyH.nil)
                          case zo80044_0 =>
                            refine step_app_row (K := LK) Try.underlying25 HI0.out.1 HI0.out.2.1 HI0.out.2.2.1 HI0.out.2.2.2.1 HI0.out.2.2.2.2 (by decide) rfl (.tmp 78) (.tmp 81) rfl V2 wB.heap.size (some ⟨V0.heap.size, 0, none⟩) 0 [] rfl (some ⟨X', 0, none⟩) y (ys.take k) (by rw [HT1.out]; rfl) FF2.out ((HRW.out V2 HV2.out).first k) (by rw [HT1.out]; simp; omega) HV2.out.size (fun e => by cases e) ?_
                            intro v5 V3 hA
                            obtain ⟨F1, f1, rfl, ho5⟩ := hA.at0
                            have HV3 : Hid (Below wB.heap.size wB V3) := HV2.out.trans hA.below
                            have GG3 := Lib.hid (oneL_kept GG2.out hA.grown hgap)
                            rw [List.nil_append] at ho5 ⊢
                            have FF3 := Lib.hid ho5
                            clear hA ho5
                            rw [HT1.out]
                            refine hK.out _ _ (trivial) (fun hHeld => ?_)
                            clear hK K
                            change wpAnyH _ _ _ _ _ _ _ (Act.put _ (some 82) _) _
                            simp only [Act.put, List.setIfInBounds_toArray, List.set_cons_zero, List.set_cons_succ]
                            refine wpAnyH_ready (rs := [9]) (by kernel_rfl) (by simp) (AllReadyH.cons rfl (fun K hK => ?zo80045_0) AllReadyH.nil)
                            case zo80045_0 =>
                              refine step_app_row (K := LK) Try.underlying25 HI0.out.1 HI0.out.2.1 HI0.out.2.2.1 HI0.out.2.2.2.1 HI0.out.2.2.2.2 (by decide) rfl (.tmp 82) (.tmp 86) rfl V3 wB.heap.size (some ⟨F1, 0, none⟩) f1 (ys.take k) (by rw [HT1.out]; rfl) (some ⟨V1.heap.size, 0, none⟩) 1 [(⟨node, now⟩ : LD)] rfl FF3.out GG3.out (by rw [HT1.out]; simp; omega) HV3.out.size (fun e => by cases e) ?_
                              intro v5 V4 hA
                              obtain ⟨F2, f2, rfl, ho5⟩ := hA.at0
                              have HV4 : Hid (Below wB.heap.size wB V4) := HV3.out.trans hA.below
                              have FF4 := Lib.hid ho5
                              clear hA ho5
                              rw [HL1.out]
                              refine hK.out _ _ (trivial) (fun hHeld => ?_)
                              clear hK K
                              change wpAnyH _ _ _ _ _ _ _ (Act.put _ (some 87) _) _
                              simp only [Act.put, List.setIfInBounds_toArray, List.set_cons_zero, List.set_cons_succ]
                              refine wpAnyH_ready (rs := [13]) (by kernel_rfl) (by simp) (AllReadyH.cons rfl (fun K hK => ?zo80046_0) AllReadyH.nil)
                              case zo80046_0 =>
                                refine step_app_row (K := LK) Try.underlying25 HI0.out.1 HI0.out.2.1 HI0.out.2.2.1 HI0.out.2.2.2.1 HI0.out.2.2.2.2 (by decide) rfl (.tmp 87) (.tmp 90) rfl V4 wB.heap.size (some ⟨F2, 0, none⟩) f2 (ys.take k ++ [(⟨node, now⟩ : LD)]) (by rw [HL1.out]; rfl) (if y = k then some ⟨X', 0, none⟩ else some ⟨X', k * 2, none⟩) (y - k) (ys.drop k) (by rw [HT2z.out]; rfl) FF4.out (HD.out V4 HV4.out) (by rw [HL1.out, HT2.out]; omega) HV4.out.size (fun e => by split at e <;> cases e) ?_
                                intro v5 V5 hA
                                obtain ⟨F3, f3, rfl, ho5⟩ := hA.at0
                                have HV5 : Hid (Below wB.heap.size wB V5) := HV4.out.trans hA.below
                                have FF5 := Lib.hid ho5
                                clear hA ho5
                                rw [HSP.out]
                                refine hK.out _ _ (trivial) (fun hHeld => ?_)
                                clear hK K
                                change wpAnyH _ _ _ _ _ _ _ (Act.put _ (some 91) _) _
                                simp only [Act.put, List.setIfInBounds_toArray, List.set_cons_zero, List.set_cons_succ]
                                refine wpAnyH_take (i := 14) (v := ?zv80047) rfl (by kernel_rfl) (by kernel_rfl) (by kernel_rfl) (fun _ _ _ h => h) (Or.inl ⟨by kernel_rfl, ?zy80047⟩) (by assumption) ?zr80047
                                case zy80047 => (intro w hSw; (try dsimp only at hSw); go_simp; try with_reducible rfl)
                                change wpAnyH _ _ _ _ _ _ _ (Act.put _ (some 6) _) _
                                simp only [Act.put, List.setIfInBounds_toArray, List.set_cons_zero, List.set_cons_succ]
                                refine wpAnyH_take (i := 15) (v := ?zv80048) rfl (by kernel_rfl) (by kernel_rfl) (by kernel_rfl) (fun _ _ _ h => h) (Or.inl ⟨by kernel_rfl, ?zy80048⟩) (by assumption) ?zr80048
                                case zy80048 => (intro w hSw; (try dsimp only at hSw); go_simp; try with_reducible rfl)
                                change wpAnyH _ _ _ _ _ _ _ (Act.put _ (some 7) _) _
                                simp only [Act.put, List.setIfInBounds_toArray, List.set_cons_zero, List.set_cons_succ]
                                refine wpAnyH_done (by kernel_rfl) ?_ _
                                have HBX : Hid (Below w.heap.size w V5) := HB.out.trans (HV5.out.mono HB.out.size)
                                go_wp2
                                all_goals (go_ret2; exact ⟨_, f3, by rw [HRL.out, HRO.out, HSP.out]; rfl, by rw [HRL.out]; exact (show OwnRow LK V5 w.heap.size _ _ _ from FF5.out.base_le HB.out.size), HBX.out⟩)
                      case zo80037_1 =>
                        go_simp
                        refine hK.out _ _ (trivial) (fun hHeld => ?_)
                        clear hK K
                        (try simp only [Act.put, List.setIfInBounds_toArray, List.set_cons_zero, List.set_cons_succ])
                        obtain ⟨V1, EV1⟩ : ∃ U, Hid (V0.alloc (.cells #[.int .i64 node, .int .i64 now] 41) = U) := ⟨_, rfl⟩
                        have hc1 : Below V0.heap.size V0 V1 := by rw [← EV1.out]; exact (Below.refl _ _).alloc (Nat.le_refl _) _
                        have HV1 : Hid (Below wB.heap.size wB V1) := HV0.out.trans (hc1.mono HV0.out.size)
                        have GG1 : Hid (RowAt LK V1 V1.heap.size (some ⟨V0.heap.size, 0, none⟩) [(⟨node, now⟩ : LD)]) := by rw [← EV1.out]; exact one_newR LK V0 ⟨node, now⟩ _
                        clear hc1
                        rw [EV1.out]
                        refine wpAnyH_ready (rs := [0]) (by kernel_rfl) (by simp) (AllReadyH.cons rfl (fun K hK => ?zo80049_0) AllReadyH.nil)
                        case zo80049_0 =>
                          go_simp
                          refine hK.out _ _ (trivial) (fun hHeld => ?_)
                          clear hK K
                          (try simp only [Act.put, List.setIfInBounds_toArray, List.set_cons_zero, List.set_cons_succ])
                          have hgap : V0.heap.size ≠ V1.heap.size := Nat.ne_of_lt (GG1.out.lt (Nat.succ_pos 0)).1
                          obtain ⟨V2, EV2⟩ : ∃ U, Hid (V1.alloc (.cells #[] 41) = U) := ⟨_, rfl⟩
                          have hc2 : Below V1.heap.size V1 V2 := by rw [← EV2.out]; exact (Below.refl _ _).alloc (Nat.le_refl _) _
                          have HV2 : Hid (Below wB.heap.size wB V2) := HV1.out.trans (hc2.mono HV1.out.size)
                          have GG2 := Lib.hid (GG1.out.belowS hc2)
                          have FF2 : Hid (OwnRow LK V2 wB.heap.size (some ⟨V1.heap.size, 0, none⟩) 0 []) := by rw [← EV2.out]; exact (OwnRow.new LK V1).base_le HV1.out.size
                          clear hc2
                          rw [EV2.out]
                          refine wpAnyH_ready (rs := [4]) (by kernel_rfl) (by simp) (AllReadyH.cons rfl (fun K hK => ?zo80050_0) AllReadyH.nil)
                          case zo80050_0 =>
                            refine step_app_row (K := LK) Try.underlying25 HI0.out.1 HI0.out.2.1 HI0.out.2.2.1 HI0.out.2.2.2.1 HI0.out.2.2.2.2 (by decide) rfl (.tmp 78) (.tmp 81) rfl V2 wB.heap.size (some ⟨V1.heap.size, 0, none⟩) 0 [] rfl (some ⟨X', 0, none⟩) y (ys.take k) (by rw [HT1.out]; rfl) FF2.out ((HRW.out V2 HV2.out).first k) (by rw [HT1.out]; simp; omega) HV2.out.size (fun e => by cases e) ?_
                            intro v5 V3 hA
                            obtain ⟨F1, f1, rfl, ho5⟩ := hA.at0
                            have HV3 : Hid (Below wB.heap.size wB V3) := HV2.out.trans hA.below
                            have GG3 := Lib.hid (oneL_kept GG2.out hA.grown hgap)
                            rw [List.nil_append] at ho5 ⊢
                            have FF3 := Lib.hid ho5
                            clear hA ho5
                            rw [HT1.out]
                            refine hK.out _ _ (trivial) (fun hHeld => ?_)
                            clear hK K
                            change wpAnyH _ _ _ _ _ _ _ (Act.put _ (some 82) _) _
                            simp only [Act.put, List.setIfInBounds_toArray, List.set_cons_zero, List.set_cons_succ]
                            refine wpAnyH_ready (rs := [9]) (by kernel_rfl) (by simp) (AllReadyH.cons rfl (fun K hK => ?zo80051_0) AllReadyH.nil)
                            case zo80051_0 =>
                              refine step_app_row (K := LK) Try.underlying25 HI0.out.1 HI0.out.2.1 HI0.out.2.2.1 HI0.out.2.2.2.1 HI0.out.2.2.2.2 (by decide) rfl (.tmp 82) (.tmp 86) rfl V3 wB.heap.size (some ⟨F1, 0, none⟩) f1 (ys.take k) (by rw [HT1.out]; rfl) (some ⟨V0.heap.size, 0, none⟩) 1 [(⟨node, now⟩ : LD)] rfl FF3.out GG3.out (by rw [HT1.out]; simp; omega) HV3.out.size (fun e => by cases e) ?_
                              intro v5 V4 hA
                              obtain ⟨F2, f2, rfl, ho5⟩ := hA.at0
                              have HV4 : Hid (Below wB.heap.size wB V4) := HV3.out.trans hA.below
                              have FF4 := Lib.hid ho5
                              clear hA ho5
                              rw [HL1.out]
                              refine hK.out _ _ (trivial) (fun hHeld => ?_)
                              clear hK K
                              change wpAnyH _ _ _ _ _ _ _ (Act.put _ (some 87) _) _
                              simp only [Act.put, List.setIfInBounds_toArray, List.set_cons_zero, List.set_cons_succ]
                              refine wpAnyH_ready (rs := [13]) (by kernel_rfl) (by simp) (AllReadyH.cons rfl (fun K hK => ?zo80052_0) AllReadyH.nil)
                              case zo80052_0 =>
                                refine step_app_row (K := LK) Try.underlying25 HI0.out.1 HI0.out.2.1 HI0.out.2.2.1 HI0.out.2.2.2.1 HI0.out.2.2.2.2 (by decide) rfl (.tmp 87) (.tmp 90) rfl V4 wB.heap.size (some ⟨F2, 0, none⟩) f2 (ys.take k ++ [(⟨node, now⟩ : LD)]) (by rw [HL1.out]; rfl) (if y = k then some ⟨X', 0, none⟩ else some ⟨X', k * 2, none⟩) (y - k) (ys.drop k) (by rw [HT2z.out]; rfl) FF4.out (HD.out V4 HV4.out) (by rw [HL1.out, HT2.out]; omega) HV4.out.size (fun e => by split at e <;> cases e) ?_
                                intro v5 V5 hA
                                obtain ⟨F3, f3, rfl, ho5⟩ := hA.at0
                                have HV5 : Hid (Below wB.heap.size wB V5) := HV4.out.trans hA.below
                                have FF5 := Lib.hid ho5
                                clear hA ho5
                                rw [HSP.out]
                                refine hK.out _ _ (trivial) (fun hHeld => ?_)
                                clear hK K
                                change wpAnyH _ _ _ _ _ _ _ (Act.put _ (some 91) _) _
                                simp only [Act.put, List.setIfInBounds_toArray, List.set_cons_zero, List.set_cons_succ]
                                refine wpAnyH_take (i := 14) (v := ?zv80053) rfl (by kernel_rfl) (by kernel_rfl) (by kernel_rfl) (fun _ _ _ h => h) (Or.inl ⟨by kernel_rfl, ?zy80053⟩) (by assumption) ?zr80053
                                case zy80053 => (intro w hSw; (try dsimp only at hSw); go_simp; try with_reducible rfl)
                                change wpAnyH _ _ _ _ _ _ _ (Act.put _ (some 6) _) _
                                simp only [Act.put, List.setIfInBounds_toArray, List.set_cons_zero, List.set_cons_succ]
                                refine wpAnyH_take (i := 15) (v := ?zv80054) rfl (by kernel_rfl) (by kernel_rfl) (by kernel_rfl) (fun _ _ _ h => h) (Or.inl ⟨by kernel_rfl, ?zy80054⟩) (by assumption) ?zr80054
                                case zy80054 => (intro w hSw; (try dsimp only at hSw); go_simp; try with_reducible rfl)
                                change wpAnyH _ _ _ _ _ _ _ (Act.put _ (some 7) _) _
                                simp only [Act.put, List.setIfInBounds_toArray, List.set_cons_zero, List.set_cons_succ]
                                refine wpAnyH_done (by kernel_rfl) ?_ _
                                have HBX : Hid (Below w.heap.size w V5) := HB.out.trans (HV5.out.mono HB.out.size)
                                go_wp2
                                all_goals (go_ret2; exact ⟨_, f3, by rw [HRL.out, HRO.out, HSP.out]; rfl, by rw [HRL.out]; exact (show OwnRow LK V5 w.heap.size _ _ _ from FF5.out.base_le HB.out.size), HBX.out⟩)
            · have h8i : ¬ (8 : Int) ≤ (k : Int) := by omega
              have h8n : k < 8 := by omega
              have HBL : Hid (baseL xs now = xs) := by show _ = _; unfold baseL; rw [if_neg (by rw [HN.out]; exact h8)]
              have HRL0 : Hid (putL xs node now = insL xs node now) := by show _ = _; rw [putL_ins HIN.out HNH.out (by rw [HBL.out, HN.out]; exact h8), HBL.out]
              have HRO : Hid (putO xs node now = true) := putO_ins HIN.out (by rw [HBL.out, HN.out]; exact h8)
              have HO := HO4
              have HB := HB4
              clear HO4 HB4 HC
              obtain ⟨m, HMK⟩ : ∃ v, Hid (k = v) := ⟨_, rfl⟩
              have HM : Hid (xs.length = m) := by rw [← HMK.out]; exact HN.out
              have hm8n : m < 8 := by rw [← HMK.out]; exact h8n
              have hm8i : ¬ (8 : Int) ≤ (m : Int) := by omega
              rw [HMK.out] at hx1 ⊢
              obtain ⟨wB, HWB⟩ : ∃ U, Hid (w4 = U) := ⟨_, rfl⟩
              rw [HWB.out] at HO HB hbz4 ⊢
              clear HWB
              have hox := HO.out.le
              rw [HM.out] at hox
              have HRW : Hid (∀ U, Below wB.heap.size wB U → RowAt LK U U.heap.size (some ⟨X, 0, none⟩) xs) := fun U hU => (HO.out.below hU).at_
              have hx1 := hox.1
              have hx2 := hox.2
              unfold maxLen at hx2
              clear hox
              go_wp2
              go_loop [10] (fun i => ∃ k : Nat, k ≤ m ∧ i = .int .i64 (k : Int) ∧ Hid (∀ j, j < k → ltN node (lth xs j) = true)) (fun i => m - (intOf i).toNat)
              case atStart => exact ⟨0, Nat.zero_le _, rfl, fun j hj => absurd hj (Nat.not_lt_zero _)⟩
              case round =>
                obtain ⟨k, hk, rfl, HC⟩ := hrel
                have hk0 : (0 : Int) ≤ (k : Int) := by omega
                by_cases hgo : k < m ∧ ltN node (lth xs k) = true
                · obtain ⟨hlt, hp⟩ := hgo
                  have hkz : k < xs.length := by rw [HM.out]; exact hlt
                  have c0 := (HRW.out _ (Below.refl _ _) |> fun r => lis_cells r k hkz).1
                  rw [Nat.zero_add] at c0
                  have hlt1 : (lth xs k).n < node := of_decide_eq_true hp
                  obtain ⟨vn, HVN⟩ : ∃ v, Hid ((lth xs k).n = v) := ⟨_, rfl⟩
                  rw [HVN.out] at c0 hlt1
                  have HC2 : Hid (∀ j, j < k + 1 → ltN node (lth xs j) = true) := fun j hj => by
                    rcases Nat.lt_or_ge j k with h | h
                    · exact HC.out j h
                    · have : j = k := by omega
                      subst this; exact hp
                  have hki : (k : Int) < (m : Int) := by omega
                  have hkd : decide (k < m) = true := decide_eq_true hlt
                  have hnd : decide (vn < node) = true := decide_eq_true hlt1
                  clear hp hkz
                  go_wp2
                  go_round
                  case rel => exact ⟨k + 1, by omega, by go_num, HC2⟩
                  case measure => simp [intOf]; omega
                · have HSTOP : Hid (k = xs.length ∨ ltN node (lth xs k) = false) := by
                    rcases Nat.lt_or_ge k m with h | h
                    · right
                      cases e : ltN node (lth xs k) with
                      | false => rfl
                      | true => exact absurd ⟨h, e⟩ hgo
                    · left; rw [HM.out]; omega
                  have HW := Lib.hid (while_of (p := ltN node) xs k (by rw [HM.out]; exact hk) HC.out HSTOP.out)
                  have HRL : Hid (putL xs node now = xs.take k ++ [(⟨node, now⟩ : LD)] ++ xs.drop k) := by
                    show _ = _
                    rw [HRL0.out]
                    unfold insL
                    rw [HW.out.1, HW.out.2, List.append_assoc]; rfl
                  have HT1 : Hid ((xs.take k).length = k) := by show _ = _; rw [List.length_take, HM.out]; omega
                  have HT2 : Hid ((xs.drop k).length = m - k) := by show _ = _; rw [List.length_drop, HM.out]
                  have HL1 : Hid ((xs.take k ++ [(⟨node, now⟩ : LD)]).length = k + 1) := by show _ = _; rw [List.length_append, HT1.out]; rfl
                  have HSP : Hid ((xs.take k ++ [(⟨node, now⟩ : LD)] ++ xs.drop k).length = m + 1) := by show _ = _; rw [List.length_append, HL1.out, HT2.out]; omega
                  have HD : Hid (∀ U, Below wB.heap.size wB U → RowAt LK U U.heap.size (if x = k then some ⟨X, 0, none⟩ else some ⟨X, k * 2, none⟩) (xs.drop k)) := fun U hU => by
                    by_cases he : x = k
                    · have h0 : xs.drop k = [] := List.eq_nil_of_length_eq_zero (by rw [HT2.out]; omega)
                      rw [h0]; exact RowAt.nil
                    · have h0 := rowL_drop (HRW.out U hU) k
                      rw [Nat.zero_add] at h0
                      rw [if_neg he]; exact h0
                  have hki1 : (k : Int) ≤ (m : Int) := by omega
                  have hkx : (k : Int) ≤ (x : Int) := by omega
                  have hktn : ((k : Int)).toNat = k := Int.toNat_natCast k
                  have hk7 : k ≤ 8 := by omega
                  by_cases hlt : k < m
                  · have hkz : k < xs.length := by rw [HM.out]; exact hlt
                    have c0 := (HRW.out _ (Below.refl _ _) |> fun r => lis_cells r k hkz).1
                    rw [Nat.zero_add] at c0
                    have hge : ¬ (lth xs k).n < node := fun h => hgo ⟨hlt, decide_eq_true h⟩
                    obtain ⟨vn, HVN⟩ : ∃ v, Hid ((lth xs k).n = v) := ⟨_, rfl⟩
                    rw [HVN.out] at c0 hge
                    have hki : (k : Int) < (m : Int) := by omega
                    have hkd : decide (k < m) = true := decide_eq_true hlt
                    have hnd : decide (vn < node) = false := decide_eq_false hge
                    have hnl : node ≤ vn := by omega
                    clear hgo hkz hge
                    go_wp2_with fail
                    refine wp_region_held_drew (S := (fun _ => True)) (by kernel_rfl) (trivial) (fun hHeld => ?_)
                    obtain ⟨V0, HVE⟩ : ∃ U, Hid (wB.drew = U) := ⟨_, rfl⟩
                    have HV0 : Hid (Below wB.heap.size wB V0) := by rw [← HVE.out]; exact below_drew (Below.refl _ _)
                    rw [HVE.out]
                    refine wpAnyH_take (i := 1) (v := ?zv80055) rfl (by kernel_rfl) (by kernel_rfl) (by kernel_rfl) (fun _ _ _ h => h) (Or.inl ⟨by kernel_rfl, ?zy80055⟩) (by assumption) ?zr80055
                    case zy80055 => (intro w hSw; (try dsimp only at hSw); go_simp; try with_reducible rfl)
                    change wpAnyH _ _ _ _ _ _ _ (Act.put _ (some 79) _) _
                    simp only [Act.put, List.setIfInBounds_toArray, List.set_cons_zero, List.set_cons_succ]
                    refine wpAnyH_take (i := 2) (v := ?zv80056) rfl (by kernel_rfl) (by kernel_rfl) (by kernel_rfl) (fun _ _ _ h => h) (Or.inl ⟨by kernel_rfl, ?zy80056⟩) (by assumption) ?zr80056
                    case zy80056 => (intro w hSw; (try dsimp only at hSw); go_simp; try with_reducible rfl)
                    change wpAnyH _ _ _ _ _ _ _ (Act.put _ (some 80) _) _
                    simp only [Act.put, List.setIfInBounds_toArray, List.set_cons_zero, List.set_cons_succ]
                    refine wpAnyH_take (i := 5) (v := ?zv80057) rfl (by kernel_rfl) (by kernel_rfl) (by kernel_rfl) (fun _ _ _ h => h) (Or.inl ⟨by kernel_rfl, ?zy80057⟩) (by assumption) ?zr80057
                    case zy80057 => (intro w hSw; (try dsimp only at hSw); go_simp; try with_reducible rfl)
                    change wpAnyH _ _ _ _ _ _ _ (Act.put _ (some 83) _) _
                    simp only [Act.put, List.setIfInBounds_toArray, List.set_cons_zero, List.set_cons_succ]
                    refine wpAnyH_take (i := 6) (v := ?zv80058) rfl (by kernel_rfl) (by kernel_rfl) (by kernel_rfl) (fun _ _ _ h => h) (Or.inl ⟨by kernel_rfl, ?zy80058⟩) (by assumption) ?zr80058
                    case zy80058 => (intro w hSw; (try dsimp only at hSw); go_simp; try with_reducible rfl)
                    change wpAnyH _ _ _ _ _ _ _ (Act.put _ (some 84) _) _
                    simp only [Act.put, List.setIfInBounds_toArray, List.set_cons_zero, List.set_cons_succ]
                    refine wpAnyH_take (i := 10) (v := ?zv80059) rfl (by kernel_rfl) (by kernel_rfl) (by kernel_rfl) (fun _ _ _ h => h) (Or.inl ⟨by kernel_rfl, ?zy80059⟩) (by assumption) ?zr80059
                    case zy80059 => (intro w hSw; (try dsimp only at hSw); go_simp; try with_reducible rfl)
                    change wpAnyH _ _ _ _ _ _ _ (Act.put _ (some 88) _) _
                    simp only [Act.put, List.setIfInBounds_toArray, List.set_cons_zero, List.set_cons_succ]
                    refine wpAnyH_take (i := 11) (v := ?zv80060) rfl (by kernel_rfl) (by kernel_rfl) (by kernel_rfl) (fun _ _ _ h => h) (Or.inl ⟨by kernel_rfl, ?zy80060⟩) (by assumption) ?zr80060
                    case zy80060 => (intro w hSw; (try dsimp only at hSw); go_simp; try with_reducible rfl)
                    change wpAnyH _ _ _ _ _ _ _ (Act.put _ (some 89) _) _
                    simp only [Act.put, List.setIfInBounds_toArray, List.set_cons_zero, List.set_cons_succ]
                    refine wpAnyH_take (i := 3) (v := ?zv80061) rfl (by kernel_rfl) (by kernel_rfl) (by kernel_rfl) (fun _ _ _ h => h) (Or.inl ⟨by kernel_rfl, ?zy80061⟩) (by assumption) ?zr80061
                    case zy80061 => (intro w hSw; (try dsimp only at hSw); go_simp; try with_reducible rfl)
                    change wpAnyH _ _ _ _ _ _ _ (Act.put _ (some 81) _) _
                    simp only [Act.put, List.setIfInBounds_toArray, List.set_cons_zero, List.set_cons_succ]
                    refine wpAnyH_take (i := 7) (v := ?zv80062) rfl (by kernel_rfl) (by kernel_rfl) (by kernel_rfl) (fun _ _ _ h => h) (Or.inl ⟨by kernel_rfl, ?zy80062⟩) (by assumption) ?zr80062
                    case zy80062 => (intro w hSw; (try dsimp only at hSw); go_simp; try with_reducible rfl)
                    change wpAnyH _ _ _ _ _ _ _ (Act.put _ (some 85) _) _
                    simp only [Act.put, List.setIfInBounds_toArray, List.set_cons_zero, List.set_cons_succ]
                    refine wpAnyH_take (i := 12) (v := ?zv80063) rfl (by kernel_rfl) (by kernel_rfl) (by kernel_rfl) (fun _ _ _ h => h) (Or.inl ⟨by kernel_rfl, ?zy80063⟩) (by assumption) ?zr80063
                    case zy80063 => (intro w hSw; (try dsimp only at hSw); go_simp; try with_reducible rfl)
                    change wpAnyH _ _ _ _ _ _ _ (Act.put _ (some 90) _) _
                    simp only [Act.put, List.setIfInBounds_toArray, List.set_cons_zero, List.set_cons_succ]
                    refine wpAnyH_ready (rs := [0, 8]) (by kernel_rfl) (by simp) (AllReadyH.cons rfl (fun K hK => ?zo80064_0) (AllReadyH.cons rfl (fun K hK => ?zo80064_1) AllReadyH.nil))
                    case zo80064_0 =>
                      go_simp
                      refine hK.out _ _ (trivial) (fun hHeld => ?_)
                      clear hK K
                      (try simp only [Act.put, List.setIfInBounds_toArray, List.set_cons_zero, List.set_cons_succ])
                      obtain ⟨V1, EV1⟩ : ∃ U, Hid (V0.alloc (.cells #[] 41) = U) := ⟨_, rfl⟩
                      have hc1 : Below V0.heap.size V0 V1 := by rw [← EV1.out]; exact (Below.refl _ _).alloc (Nat.le_refl _) _
                      have HV1 : Hid (Below wB.heap.size wB V1) := HV0.out.trans (hc1.mono HV0.out.size)
                      have FF1 : Hid (OwnRow LK V1 wB.heap.size (some ⟨V0.heap.size, 0, none⟩) 0 []) := by rw [← EV1.out]; exact (OwnRow.new LK V0).base_le HV0.out.size
                      clear hc1
                      rw [EV1.out]
                      refine wpAnyH_ready (rs := [4, 8]) (by kernel_rfl) (by simp) (AllReadyH.cons rfl (fun K hK => ?zo80065_0) (AllReadyH.cons rfl (fun K hK => ?zo80065_1) AllReadyH.nil))
                      case zo80065_0 =>
                        refine step_app_row (K := LK) Try.underlying25 HI0.out.1 HI0.out.2.1 HI0.out.2.2.1 HI0.out.2.2.2.1 HI0.out.2.2.2.2 (by decide) rfl (.tmp 78) (.tmp 81) rfl V1 wB.heap.size (some ⟨V0.heap.size, 0, none⟩) 0 [] rfl (some ⟨X, 0, none⟩) x (xs.take k) (by rw [HT1.out]; rfl) FF1.out ((HRW.out V1 HV1.out).first k) (by rw [HT1.out]; simp; omega) HV1.out.size (fun e => by cases e) ?_
                        intro v5 V2 hA
                        obtain ⟨F1, f1, rfl, ho5⟩ := hA.at0
                        have HV2 : Hid (Below wB.heap.size wB V2) := HV1.out.trans hA.below
                        rw [List.nil_append] at ho5 ⊢
                        have FF2 := Lib.hid ho5
                        clear hA ho5
                        rw [HT1.out]
                        refine hK.out _ _ (trivial) (fun hHeld => ?_)
                        clear hK K
                        change wpAnyH _ _ _ _ _ _ _ (Act.put _ (some 82) _) _
                        simp only [Act.put, List.setIfInBounds_toArray, List.set_cons_zero, List.set_cons_succ]
                        refine wpAnyH_ready (rs := [8]) (by kernel_rfl) (by simp) (AllReadyH.cons rfl (fun K hK => ?zo80066_0) AllReadyH.nil)
                        case zo80066_0 =>
                          go_simp
                          refine hK.out _ _ (trivial) (fun hHeld => ?_)
                          clear hK K
                          (try simp only [Act.put, List.setIfInBounds_toArray, List.set_cons_zero, List.set_cons_succ])
                          obtain ⟨V3, EV3⟩ : ∃ U, Hid (V2.alloc (.cells #[.int .i64 node, .int .i64 now] 41) = U) := ⟨_, rfl⟩
                          have hc3 : Below V2.heap.size V2 V3 := by rw [← EV3.out]; exact (Below.refl _ _).alloc (Nat.le_refl _) _
                          have HV3 : Hid (Below wB.heap.size wB V3) := HV2.out.trans (hc3.mono HV2.out.size)
                          have FF3 := Lib.hid (FF2.out.below hc3)
                          have GG3 : Hid (RowAt LK V3 V3.heap.size (some ⟨V2.heap.size, 0, none⟩) [(⟨node, now⟩ : LD)]) := by rw [← EV3.out]; exact one_newR LK V2 ⟨node, now⟩ _
                          clear hc3
                          rw [EV3.out]
                          refine wpAnyH_ready (rs := [9]) (by kernel_rfl) (by simp) (AllReadyH.cons rfl (fun K hK => ?zo80067_0) AllReadyH.nil)
                          case zo80067_0 =>
                            refine step_app_row (K := LK) Try.underlying25 HI0.out.1 HI0.out.2.1 HI0.out.2.2.1 HI0.out.2.2.2.1 HI0.out.2.2.2.2 (by decide) rfl (.tmp 82) (.tmp 86) rfl V3 wB.heap.size (some ⟨F1, 0, none⟩) f1 (xs.take k) (by rw [HT1.out]; rfl) (some ⟨V2.heap.size, 0, none⟩) 1 [(⟨node, now⟩ : LD)] rfl FF3.out GG3.out (by rw [HT1.out]; simp; omega) HV3.out.size (fun e => by cases e) ?_
                            intro v5 V4 hA
                            obtain ⟨F2, f2, rfl, ho5⟩ := hA.at0
                            have HV4 : Hid (Below wB.heap.size wB V4) := HV3.out.trans hA.below
                            have FF4 := Lib.hid ho5
                            clear hA ho5
                            rw [HL1.out]
                            refine hK.out _ _ (trivial) (fun hHeld => ?_)
                            clear hK K
                            change wpAnyH _ _ _ _ _ _ _ (Act.put _ (some 87) _) _
                            simp only [Act.put, List.setIfInBounds_toArray, List.set_cons_zero, List.set_cons_succ]
                            refine wpAnyH_ready (rs := [13]) (by kernel_rfl) (by simp) (AllReadyH.cons rfl (fun K hK => ?zo80068_0) AllReadyH.nil)
                            case zo80068_0 =>
                              refine step_app_row (K := LK) Try.underlying25 HI0.out.1 HI0.out.2.1 HI0.out.2.2.1 HI0.out.2.2.2.1 HI0.out.2.2.2.2 (by decide) rfl (.tmp 87) (.tmp 90) rfl V4 wB.heap.size (some ⟨F2, 0, none⟩) f2 (xs.take k ++ [(⟨node, now⟩ : LD)]) (by rw [HL1.out]; rfl) (if x = k then some ⟨X, 0, none⟩ else some ⟨X, k * 2, none⟩) (x - k) (xs.drop k) (by rw [HT2.out]; rfl) FF4.out (HD.out V4 HV4.out) (by rw [HL1.out, HT2.out]; omega) HV4.out.size (fun e => by split at e <;> cases e) ?_
                              intro v5 V5 hA
                              obtain ⟨F3, f3, rfl, ho5⟩ := hA.at0
                              have HV5 : Hid (Below wB.heap.size wB V5) := HV4.out.trans hA.below
                              have FF5 := Lib.hid ho5
                              clear hA ho5
                              rw [HSP.out]
                              refine hK.out _ _ (trivial) (fun hHeld => ?_)
                              clear hK K
                              change wpAnyH _ _ _ _ _ _ _ (Act.put _ (some 91) _) _
                              simp only [Act.put, List.setIfInBounds_toArray, List.set_cons_zero, List.set_cons_succ]
                              refine wpAnyH_take (i := 14) (v := ?zv80069) rfl (by kernel_rfl) (by kernel_rfl) (by kernel_rfl) (fun _ _ _ h => h) (Or.inl ⟨by kernel_rfl, ?zy80069⟩) (by assumption) ?zr80069
                              case zy80069 => (intro w hSw; (try dsimp only at hSw); go_simp; try with_reducible rfl)
                              change wpAnyH _ _ _ _ _ _ _ (Act.put _ (some 6) _) _
                              simp only [Act.put, List.setIfInBounds_toArray, List.set_cons_zero, List.set_cons_succ]
                              refine wpAnyH_take (i := 15) (v := ?zv80070) rfl (by kernel_rfl) (by kernel_rfl) (by kernel_rfl) (fun _ _ _ h => h) (Or.inl ⟨by kernel_rfl, ?zy80070⟩) (by assumption) ?zr80070
                              case zy80070 => (intro w hSw; (try dsimp only at hSw); go_simp; try with_reducible rfl)
                              change wpAnyH _ _ _ _ _ _ _ (Act.put _ (some 7) _) _
                              simp only [Act.put, List.setIfInBounds_toArray, List.set_cons_zero, List.set_cons_succ]
                              refine wpAnyH_done (by kernel_rfl) ?_ _
                              have HBX : Hid (Below w.heap.size w V5) := HB.out.trans (HV5.out.mono HB.out.size)
                              go_wp2
                              all_goals (go_ret2; exact ⟨_, f3, by rw [HRL.out, HRO.out, HSP.out]; rfl, by rw [HRL.out]; exact (show OwnRow LK V5 w.heap.size _ _ _ from FF5.out.base_le HB.out.size), HBX.out⟩)
                      case zo80065_1 =>
                        go_simp
                        refine hK.out _ _ (trivial) (fun hHeld => ?_)
                        clear hK K
                        (try simp only [Act.put, List.setIfInBounds_toArray, List.set_cons_zero, List.set_cons_succ])
                        have hgap : V1.heap.size ≠ V0.heap.size := Nat.ne_of_gt (ownL_lt FF1.out)
                        obtain ⟨V2, EV2⟩ : ∃ U, Hid (V1.alloc (.cells #[.int .i64 node, .int .i64 now] 41) = U) := ⟨_, rfl⟩
                        have hc2 : Below V1.heap.size V1 V2 := by rw [← EV2.out]; exact (Below.refl _ _).alloc (Nat.le_refl _) _
                        have HV2 : Hid (Below wB.heap.size wB V2) := HV1.out.trans (hc2.mono HV1.out.size)
                        have FF2 := Lib.hid (FF1.out.below hc2)
                        have GG2 : Hid (RowAt LK V2 V2.heap.size (some ⟨V1.heap.size, 0, none⟩) [(⟨node, now⟩ : LD)]) := by rw [← EV2.out]; exact one_newR LK V1 ⟨node, now⟩ _
                        clear hc2
                        rw [EV2.out]
                        refine wpAnyH_ready (rs := [4]) (by kernel_rfl) (by simp) (AllReadyH.cons rfl (fun K hK => ?zo80071_0) AllReadyH.nil)
                        case zo80071_0 =>
                          refine step_app_row (K := LK) Try.underlying25 HI0.out.1 HI0.out.2.1 HI0.out.2.2.1 HI0.out.2.2.2.1 HI0.out.2.2.2.2 (by decide) rfl (.tmp 78) (.tmp 81) rfl V2 wB.heap.size (some ⟨V0.heap.size, 0, none⟩) 0 [] rfl (some ⟨X, 0, none⟩) x (xs.take k) (by rw [HT1.out]; rfl) FF2.out ((HRW.out V2 HV2.out).first k) (by rw [HT1.out]; simp; omega) HV2.out.size (fun e => by cases e) ?_
                          intro v5 V3 hA
                          obtain ⟨F1, f1, rfl, ho5⟩ := hA.at0
                          have HV3 : Hid (Below wB.heap.size wB V3) := HV2.out.trans hA.below
                          have GG3 := Lib.hid (oneL_kept GG2.out hA.grown hgap)
                          rw [List.nil_append] at ho5 ⊢
                          have FF3 := Lib.hid ho5
                          clear hA ho5
                          rw [HT1.out]
                          refine hK.out _ _ (trivial) (fun hHeld => ?_)
                          clear hK K
                          change wpAnyH _ _ _ _ _ _ _ (Act.put _ (some 82) _) _
                          simp only [Act.put, List.setIfInBounds_toArray, List.set_cons_zero, List.set_cons_succ]
                          refine wpAnyH_ready (rs := [9]) (by kernel_rfl) (by simp) (AllReadyH.cons rfl (fun K hK => ?zo80072_0) AllReadyH.nil)
                          case zo80072_0 =>
                            refine step_app_row (K := LK) Try.underlying25 HI0.out.1 HI0.out.2.1 HI0.out.2.2.1 HI0.out.2.2.2.1 HI0.out.2.2.2.2 (by decide) rfl (.tmp 82) (.tmp 86) rfl V3 wB.heap.size (some ⟨F1, 0, none⟩) f1 (xs.take k) (by rw [HT1.out]; rfl) (some ⟨V1.heap.size, 0, none⟩) 1 [(⟨node, now⟩ : LD)] rfl FF3.out GG3.out (by rw [HT1.out]; simp; omega) HV3.out.size (fun e => by cases e) ?_
                            intro v5 V4 hA
                            obtain ⟨F2, f2, rfl, ho5⟩ := hA.at0
                            have HV4 : Hid (Below wB.heap.size wB V4) := HV3.out.trans hA.below
                            have FF4 := Lib.hid ho5
                            clear hA ho5
                            rw [HL1.out]
                            refine hK.out _ _ (trivial) (fun hHeld => ?_)
                            clear hK K
                            change wpAnyH _ _ _ _ _ _ _ (Act.put _ (some 87) _) _
                            simp only [Act.put, List.setIfInBounds_toArray, List.set_cons_zero, List.set_cons_succ]
                            refine wpAnyH_ready (rs := [13]) (by kernel_rfl) (by simp) (AllReadyH.cons rfl (fun K hK => ?zo80073_0) AllReadyH.nil)
                            case zo80073_0 =>
                              refine step_app_row (K := LK) Try.underlying25 HI0.out.1 HI0.out.2.1 HI0.out.2.2.1 HI0.out.2.2.2.1 HI0.out.2.2.2.2 (by decide) rfl (.tmp 87) (.tmp 90) rfl V4 wB.heap.size (some ⟨F2, 0, none⟩) f2 (xs.take k ++ [(⟨node, now⟩ : LD)]) (by rw [HL1.out]; rfl) (if x = k then some ⟨X, 0, none⟩ else some ⟨X, k * 2, none⟩) (x - k) (xs.drop k) (by rw [HT2.out]; rfl) FF4.out (HD.out V4 HV4.out) (by rw [HL1.out, HT2.out]; omega) HV4.out.size (fun e => by split at e <;> cases e) ?_
                              intro v5 V5 hA
                              obtain ⟨F3, f3, rfl, ho5⟩ := hA.at0
                              have HV5 : Hid (Below wB.heap.size wB V5) := HV4.out.trans hA.below
                              have FF5 := Lib.hid ho5
                              clear hA ho5
                              rw [HSP.out]
                              refine hK.out _ _ (trivial) (fun hHeld => ?_)
                              clear hK K
                              change wpAnyH _ _ _ _ _ _ _ (Act.put _ (some 91) _) _
                              simp only [Act.put, List.setIfInBounds_toArray, List.set_cons_zero, List.set_cons_succ]
                              refine wpAnyH_take (i := 14) (v := ?zv80074) rfl (by kernel_rfl) (by kernel_rfl) (by kernel_rfl) (fun _ _ _ h => h) (Or.inl ⟨by kernel_rfl, ?zy80074⟩) (by assumption) ?zr80074
                              case zy80074 => (intro w hSw; (try dsimp only at hSw); go_simp; try with_reducible rfl)
                              change wpAnyH _ _ _ _ _ _ _ (Act.put _ (some 6) _) _
                              simp only [Act.put, List.setIfInBounds_toArray, List.set_cons_zero, List.set_cons_succ]
                              refine wpAnyH_take (i := 15) (v := ?zv80075) rfl (by kernel_rfl) (by kernel_rfl) (by kernel_rfl) (fun _ _ _ h => h) (Or.inl ⟨by kernel_rfl, ?zy80075⟩) (by assumption) ?zr80075
                              case zy80075 => (intro w hSw; (try dsimp only at hSw); go_simp; try with_reducible rfl)
                              change wpAnyH _ _ _ _ _ _ _ (Act.put _ (some 7) _) _
                              simp only [Act.put, List.setIfInBounds_toArray, List.set_cons_zero, List.set_cons_succ]
                              refine wpAnyH_done (by kernel_rfl) ?_ _
                              have HBX : Hid (Below w.heap.size w V5) := HB.out.trans (HV5.out.mono HB.out.size)
                              go_wp2
                              all_goals (go_ret2; exact ⟨_, f3, by rw [HRL.out, HRO.out, HSP.out]; rfl, by rw [HRL.out]; exact (show OwnRow LK V5 w.heap.size _ _ _ from FF5.out.base_le HB.out.size), HBX.out⟩)
                    case zo80064_1 =>
                      go_simp
                      refine hK.out _ _ (trivial) (fun hHeld => ?_)
                      clear hK K
                      (try simp only [Act.put, List.setIfInBounds_toArray, List.set_cons_zero, List.set_cons_succ])
                      obtain ⟨V1, EV1⟩ : ∃ U, Hid (V0.alloc (.cells #[.int .i64 node, .int .i64 now] 41) = U) := ⟨_, rfl⟩
                      have hc1 : Below V0.heap.size V0 V1 := by rw [← EV1.out]; exact (Below.refl _ _).alloc (Nat.le_refl _) _
                      have HV1 : Hid (Below wB.heap.size wB V1) := HV0.out.trans (hc1.mono HV0.out.size)
                      have GG1 : Hid (RowAt LK V1 V1.heap.size (some ⟨V0.heap.size, 0, none⟩) [(⟨node, now⟩ : LD)]) := by rw [← EV1.out]; exact one_newR LK V0 ⟨node, now⟩ _
                      clear hc1
                      rw [EV1.out]
                      refine wpAnyH_ready (rs := [0]) (by kernel_rfl) (by simp) (AllReadyH.cons rfl (fun K hK => ?zo80076_0) AllReadyH.nil)
                      case zo80076_0 =>
                        go_simp
                        refine hK.out _ _ (trivial) (fun hHeld => ?_)
                        clear hK K
                        (try simp only [Act.put, List.setIfInBounds_toArray, List.set_cons_zero, List.set_cons_succ])
                        have hgap : V0.heap.size ≠ V1.heap.size := Nat.ne_of_lt (GG1.out.lt (Nat.succ_pos 0)).1
                        obtain ⟨V2, EV2⟩ : ∃ U, Hid (V1.alloc (.cells #[] 41) = U) := ⟨_, rfl⟩
                        have hc2 : Below V1.heap.size V1 V2 := by rw [← EV2.out]; exact (Below.refl _ _).alloc (Nat.le_refl _) _
                        have HV2 : Hid (Below wB.heap.size wB V2) := HV1.out.trans (hc2.mono HV1.out.size)
                        have GG2 := Lib.hid (GG1.out.belowS hc2)
                        have FF2 : Hid (OwnRow LK V2 wB.heap.size (some ⟨V1.heap.size, 0, none⟩) 0 []) := by rw [← EV2.out]; exact (OwnRow.new LK V1).base_le HV1.out.size
                        clear hc2
                        rw [EV2.out]
                        refine wpAnyH_ready (rs := [4]) (by kernel_rfl) (by simp) (AllReadyH.cons rfl (fun K hK => ?zo80077_0) AllReadyH.nil)
                        case zo80077_0 =>
                          refine step_app_row (K := LK) Try.underlying25 HI0.out.1 HI0.out.2.1 HI0.out.2.2.1 HI0.out.2.2.2.1 HI0.out.2.2.2.2 (by decide) rfl (.tmp 78) (.tmp 81) rfl V2 wB.heap.size (some ⟨V1.heap.size, 0, none⟩) 0 [] rfl (some ⟨X, 0, none⟩) x (xs.take k) (by rw [HT1.out]; rfl) FF2.out ((HRW.out V2 HV2.out).first k) (by rw [HT1.out]; simp; omega) HV2.out.size (fun e => by cases e) ?_
                          intro v5 V3 hA
                          obtain ⟨F1, f1, rfl, ho5⟩ := hA.at0
                          have HV3 : Hid (Below wB.heap.size wB V3) := HV2.out.trans hA.below
                          have GG3 := Lib.hid (oneL_kept GG2.out hA.grown hgap)
                          rw [List.nil_append] at ho5 ⊢
                          have FF3 := Lib.hid ho5
                          clear hA ho5
                          rw [HT1.out]
                          refine hK.out _ _ (trivial) (fun hHeld => ?_)
                          clear hK K
                          change wpAnyH _ _ _ _ _ _ _ (Act.put _ (some 82) _) _
                          simp only [Act.put, List.setIfInBounds_toArray, List.set_cons_zero, List.set_cons_succ]
                          refine wpAnyH_ready (rs := [9]) (by kernel_rfl) (by simp) (AllReadyH.cons rfl (fun K hK => ?zo80078_0) AllReadyH.nil)
                          case zo80078_0 =>
                            refine step_app_row (K := LK) Try.underlying25 HI0.out.1 HI0.out.2.1 HI0.out.2.2.1 HI0.out.2.2.2.1 HI0.out.2.2.2.2 (by decide) rfl (.tmp 82) (.tmp 86) rfl V3 wB.heap.size (some ⟨F1, 0, none⟩) f1 (xs.take k) (by rw [HT1.out]; rfl) (some ⟨V0.heap.size, 0, none⟩) 1 [(⟨node, now⟩ : LD)] rfl FF3.out GG3.out (by rw [HT1.out]; simp; omega) HV3.out.size (fun e => by cases e) ?_
                            intro v5 V4 hA
                            obtain ⟨F2, f2, rfl, ho5⟩ := hA.at0
                            have HV4 : Hid (Below wB.heap.size wB V4) := HV3.out.trans hA.below
                            have FF4 := Lib.hid ho5
                            clear hA ho5
                            rw [HL1.out]
                            refine hK.out _ _ (trivial) (fun hHeld => ?_)
                            clear hK K
                            change wpAnyH _ _ _ _ _ _ _ (Act.put _ (some 87) _) _
                            simp only [Act.put, List.setIfInBounds_toArray, List.set_cons_zero, List.set_cons_succ]
                            refine wpAnyH_ready (rs := [13]) (by kernel_rfl) (by simp) (AllReadyH.cons rfl (fun K hK => ?zo80079_0) AllReadyH.nil)
                            case zo80079_0 =>
                              refine step_app_row (K := LK) Try.underlying25 HI0.out.1 HI0.out.2.1 HI0.out.2.2.1 HI0.out.2.2.2.1 HI0.out.2.2.2.2 (by decide) rfl (.tmp 87) (.tmp 90) rfl V4 wB.heap.size (some ⟨F2, 0, none⟩) f2 (xs.take k ++ [(⟨node, now⟩ : LD)]) (by rw [HL1.out]; rfl) (if x = k then some ⟨X, 0, none⟩ else some ⟨X, k * 2, none⟩) (x - k) (xs.drop k) (by rw [HT2.out]; rfl) FF4.out (HD.out V4 HV4.out) (by rw [HL1.out, HT2.out]; omega) HV4.out.size (fun e => by split at e <;> cases e) ?_
                              intro v5 V5 hA
                              obtain ⟨F3, f3, rfl, ho5⟩ := hA.at0
                              have HV5 : Hid (Below wB.heap.size wB V5) := HV4.out.trans hA.below
                              have FF5 := Lib.hid ho5
                              clear hA ho5
                              rw [HSP.out]
                              refine hK.out _ _ (trivial) (fun hHeld => ?_)
                              clear hK K
                              change wpAnyH _ _ _ _ _ _ _ (Act.put _ (some 91) _) _
                              simp only [Act.put, List.setIfInBounds_toArray, List.set_cons_zero, List.set_cons_succ]
                              refine wpAnyH_take (i := 14) (v := ?zv80080) rfl (by kernel_rfl) (by kernel_rfl) (by kernel_rfl) (fun _ _ _ h => h) (Or.inl ⟨by kernel_rfl, ?zy80080⟩) (by assumption) ?zr80080
                              case zy80080 => (intro w hSw; (try dsimp only at hSw); go_simp; try with_reducible rfl)
                              change wpAnyH _ _ _ _ _ _ _ (Act.put _ (some 6) _) _
                              simp only [Act.put, List.setIfInBounds_toArray, List.set_cons_zero, List.set_cons_succ]
                              refine wpAnyH_take (i := 15) (v := ?zv80081) rfl (by kernel_rfl) (by kernel_rfl) (by kernel_rfl) (fun _ _ _ h => h) (Or.inl ⟨by kernel_rfl, ?zy80081⟩) (by assumption) ?zr80081
                              case zy80081 => (intro w hSw; (try dsimp only at hSw); go_simp; try with_reducible rfl)
                              change wpAnyH _ _ _ _ _ _ _ (Act.put _ (some 7) _) _
                              simp only [Act.put, List.setIfInBounds_toArray, List.set_cons_zero, List.set_cons_succ]
                              refine wpAnyH_done (by kernel_rfl) ?_ _
                              have HBX : Hid (Below w.heap.size w V5) := HB.out.trans (HV5.out.mono HB.out.size)
                              go_wp2
                              all_goals (go_ret2; exact ⟨_, f3, by rw [HRL.out, HRO.out, HSP.out]; rfl, by rw [HRL.out]; exact (show OwnRow LK V5 w.heap.size _ _ _ from FF5.out.base_le HB.out.size), HBX.out⟩)
                  · have hki : ¬ (k : Int) < (m : Int) := by omega
                    have hkd : decide (k < m) = false := decide_eq_false hlt
                    have hmk : m ≤ k := by omega
                    have HT2z : Hid ((xs.drop k).length = 0) := by show _ = _; rw [HT2.out]; omega
                    clear hgo
                    go_wp2_with fail
                    refine wp_region_held_drew (S := (fun _ => True)) (by kernel_rfl) (trivial) (fun hHeld => ?_)
                    obtain ⟨V0, HVE⟩ : ∃ U, Hid (wB.drew = U) := ⟨_, rfl⟩
                    have HV0 : Hid (Below wB.heap.size wB V0) := by rw [← HVE.out]; exact below_drew (Below.refl _ _)
                    rw [HVE.out]
                    refine wpAnyH_take (i := 1) (v := ?zv80082) rfl (by kernel_rfl) (by kernel_rfl) (by kernel_rfl) (fun _ _ _ h => h) (Or.inl ⟨by kernel_rfl, ?zy80082⟩) (by assumption) ?zr80082
                    case zy80082 => (intro w hSw; (try dsimp only at hSw); go_simp; try with_reducible rfl)
                    change wpAnyH _ _ _ _ _ _ _ (Act.put _ (some 79) _) _
                    simp only [Act.put, List.setIfInBounds_toArray, List.set_cons_zero, List.set_cons_succ]
                    refine wpAnyH_take (i := 2) (v := ?zv80083) rfl (by kernel_rfl) (by kernel_rfl) (by kernel_rfl) (fun _ _ _ h => h) (Or.inl ⟨by kernel_rfl, ?zy80083⟩) (by assumption) ?zr80083
                    case zy80083 => (intro w hSw; (try dsimp only at hSw); go_simp; try with_reducible rfl)
                    change wpAnyH _ _ _ _ _ _ _ (Act.put _ (some 80) _) _
                    simp only [Act.put, List.setIfInBounds_toArray, List.set_cons_zero, List.set_cons_succ]
                    refine wpAnyH_take (i := 5) (v := ?zv80084) rfl (by kernel_rfl) (by kernel_rfl) (by kernel_rfl) (fun _ _ _ h => h) (Or.inl ⟨by kernel_rfl, ?zy80084⟩) (by assumption) ?zr80084
                    case zy80084 => (intro w hSw; (try dsimp only at hSw); go_simp; try with_reducible rfl)
                    change wpAnyH _ _ _ _ _ _ _ (Act.put _ (some 83) _) _
                    simp only [Act.put, List.setIfInBounds_toArray, List.set_cons_zero, List.set_cons_succ]
                    refine wpAnyH_take (i := 6) (v := ?zv80085) rfl (by kernel_rfl) (by kernel_rfl) (by kernel_rfl) (fun _ _ _ h => h) (Or.inl ⟨by kernel_rfl, ?zy80085⟩) (by assumption) ?zr80085
                    case zy80085 => (intro w hSw; (try dsimp only at hSw); go_simp; try with_reducible rfl)
                    change wpAnyH _ _ _ _ _ _ _ (Act.put _ (some 84) _) _
                    simp only [Act.put, List.setIfInBounds_toArray, List.set_cons_zero, List.set_cons_succ]
                    refine wpAnyH_take (i := 10) (v := ?zv80086) rfl (by kernel_rfl) (by kernel_rfl) (by kernel_rfl) (fun _ _ _ h => h) (Or.inl ⟨by kernel_rfl, ?zy80086⟩) (by assumption) ?zr80086
                    case zy80086 => (intro w hSw; (try dsimp only at hSw); go_simp; try with_reducible rfl)
                    change wpAnyH _ _ _ _ _ _ _ (Act.put _ (some 88) _) _
                    simp only [Act.put, List.setIfInBounds_toArray, List.set_cons_zero, List.set_cons_succ]
                    refine wpAnyH_take (i := 11) (v := ?zv80087) rfl (by kernel_rfl) (by kernel_rfl) (by kernel_rfl) (fun _ _ _ h => h) (Or.inl ⟨by kernel_rfl, ?zy80087⟩) (by assumption) ?zr80087
                    case zy80087 => (intro w hSw; (try dsimp only at hSw); go_simp; try with_reducible rfl)
                    change wpAnyH _ _ _ _ _ _ _ (Act.put _ (some 89) _) _
                    simp only [Act.put, List.setIfInBounds_toArray, List.set_cons_zero, List.set_cons_succ]
                    refine wpAnyH_take (i := 3) (v := ?zv80088) rfl (by kernel_rfl) (by kernel_rfl) (by kernel_rfl) (fun _ _ _ h => h) (Or.inl ⟨by kernel_rfl, ?zy80088⟩) (by assumption) ?zr80088
                    case zy80088 => (intro w hSw; (try dsimp only at hSw); go_simp; try with_reducible rfl)
                    change wpAnyH _ _ _ _ _ _ _ (Act.put _ (some 81) _) _
                    simp only [Act.put, List.setIfInBounds_toArray, List.set_cons_zero, List.set_cons_succ]
                    refine wpAnyH_take (i := 7) (v := ?zv80089) rfl (by kernel_rfl) (by kernel_rfl) (by kernel_rfl) (fun _ _ _ h => h) (Or.inl ⟨by kernel_rfl, ?zy80089⟩) (by assumption) ?zr80089
                    case zy80089 => (intro w hSw; (try dsimp only at hSw); go_simp; try with_reducible rfl)
                    change wpAnyH _ _ _ _ _ _ _ (Act.put _ (some 85) _) _
                    simp only [Act.put, List.setIfInBounds_toArray, List.set_cons_zero, List.set_cons_succ]
                    refine wpAnyH_take (i := 12) (v := ?zv80090) rfl (by kernel_rfl) (by kernel_rfl) (by kernel_rfl) (fun _ _ _ h => h) (Or.inl ⟨by kernel_rfl, ?zy80090⟩) (by assumption) ?zr80090
                    case zy80090 => (intro w hSw; (try dsimp only at hSw); go_simp; try with_reducible rfl)
                    change wpAnyH _ _ _ _ _ _ _ (Act.put _ (some 90) _) _
                    simp only [Act.put, List.setIfInBounds_toArray, List.set_cons_zero, List.set_cons_succ]
                    refine wpAnyH_ready (rs := [0, 8]) (by kernel_rfl) (by simp) (AllReadyH.cons rfl (fun K hK => ?zo80091_0) (AllReadyH.cons rfl (fun K hK => ?zo80091_1) AllReadyH.nil))
                    case zo80091_0 =>
                      go_simp
                      refine hK.out _ _ (trivial) (fun hHeld => ?_)
                      clear hK K
                      (try simp only [Act.put, List.setIfInBounds_toArray, List.set_cons_zero, List.set_cons_succ])
                      obtain ⟨V1, EV1⟩ : ∃ U, Hid (V0.alloc (.cells #[] 41) = U) := ⟨_, rfl⟩
                      have hc1 : Below V0.heap.size V0 V1 := by rw [← EV1.out]; exact (Below.refl _ _).alloc (Nat.le_refl _) _
                      have HV1 : Hid (Below wB.heap.size wB V1) := HV0.out.trans (hc1.mono HV0.out.size)
                      have FF1 : Hid (OwnRow LK V1 wB.heap.size (some ⟨V0.heap.size, 0, none⟩) 0 []) := by rw [← EV1.out]; exact (OwnRow.new LK V0).base_le HV0.out.size
                      clear hc1
                      rw [EV1.out]
                      refine wpAnyH_ready (rs := [4, 8]) (by kernel_rfl) (by simp) (AllReadyH.cons rfl (fun K hK => ?zo80092_0) (AllReadyH.cons rfl (fun K hK => ?zo80092_1) AllReadyH.nil))
                      case zo80092_0 =>
                        refine step_app_row (K := LK) Try.underlying25 HI0.out.1 HI0.out.2.1 HI0.out.2.2.1 HI0.out.2.2.2.1 HI0.out.2.2.2.2 (by decide) rfl (.tmp 78) (.tmp 81) rfl V1 wB.heap.size (some ⟨V0.heap.size, 0, none⟩) 0 [] rfl (some ⟨X, 0, none⟩) x (xs.take k) (by rw [HT1.out]; rfl) FF1.out ((HRW.out V1 HV1.out).first k) (by rw [HT1.out]; simp; omega) HV1.out.size (fun e => by cases e) ?_
                        intro v5 V2 hA
                        obtain ⟨F1, f1, rfl, ho5⟩ := hA.at0
                        have HV2 : Hid (Below wB.heap.size wB V2) := HV1.out.trans hA.below
                        rw [List.nil_append] at ho5 ⊢
                        have FF2 := Lib.hid ho5
                        clear hA ho5
                        rw [HT1.out]
                        refine hK.out _ _ (trivial) (fun hHeld => ?_)
                        clear hK K
                        change wpAnyH _ _ _ _ _ _ _ (Act.put _ (some 82) _) _
                        simp only [Act.put, List.setIfInBounds_toArray, List.set_cons_zero, List.set_cons_succ]
                        refine wpAnyH_ready (rs := [8]) (by kernel_rfl) (by simp) (AllReadyH.cons rfl (fun K hK => ?zo80093_0) AllReadyH.nil)
                        case zo80093_0 =>
                          go_simp
                          refine hK.out _ _ (trivial) (fun hHeld => ?_)
                          clear hK K
                          (try simp only [Act.put, List.setIfInBounds_toArray, List.set_cons_zero, List.set_cons_succ])
                          obtain ⟨V3, EV3⟩ : ∃ U, Hid (V2.alloc (.cells #[.int .i64 node, .int .i64 now] 41) = U) := ⟨_, rfl⟩
                          have hc3 : Below V2.heap.size V2 V3 := by rw [← EV3.out]; exact (Below.refl _ _).alloc (Nat.le_refl _) _
                          have HV3 : Hid (Below wB.heap.size wB V3) := HV2.out.trans (hc3.mono HV2.out.size)
                          have FF3 := Lib.hid (FF2.out.below hc3)
                          have GG3 : Hid (RowAt LK V3 V3.heap.size (some ⟨V2.heap.size, 0, none⟩) [(⟨node, now⟩ : LD)]) := by rw [← EV3.out]; exact one_newR LK V2 ⟨node, now⟩ _
                          clear hc3
                          rw [EV3.out]
                          refine wpAnyH_ready (rs := [9]) (by kernel_rfl) (by simp) (AllReadyH.cons rfl (fun K hK => ?zo80094_0) AllReadyH.nil)
                          case zo80094_0 =>
                            refine step_app_row (K := LK) Try.underlying25 HI0.out.1 HI0.out.2.1 HI0.out.2.2.1 HI0.out.2.2.2.1 HI0.out.2.2.2.2 (by decide) rfl (.tmp 82) (.tmp 86) rfl V3 wB.heap.size (some ⟨F1, 0, none⟩) f1 (xs.take k) (by rw [HT1.out]; rfl) (some ⟨V2.heap.size, 0, none⟩) 1 [(⟨node, now⟩ : LD)] rfl FF3.out GG3.out (by rw [HT1.out]; simp; omega) HV3.out.size (fun e => by cases e) ?_
                            intro v5 V4 hA
                            obtain ⟨F2, f2, rfl, ho5⟩ := hA.at0
                            have HV4 : Hid (Below wB.heap.size wB V4) := HV3.out.trans hA.below
                            have FF4 := Lib.hid ho5
                            clear hA ho5
                            rw [HL1.out]
                            refine hK.out _ _ (trivial) (fun hHeld => ?_)
                            clear hK K
                            change wpAnyH _ _ _ _ _ _ _ (Act.put _ (some 87) _) _
                            simp only [Act.put, List.setIfInBounds_toArray, List.set_cons_zero, List.set_cons_succ]
                            refine wpAnyH_ready (rs := [13]) (by kernel_rfl) (by simp) (AllReadyH.cons rfl (fun K hK => ?zo80095_0) AllReadyH.nil)
                            case zo80095_0 =>
                              refine step_app_row (K := LK) Try.underlying25 HI0.out.1 HI0.out.2.1 HI0.out.2.2.1 HI0.out.2.2.2.1 HI0.out.2.2.2.2 (by decide) rfl (.tmp 87) (.tmp 90) rfl V4 wB.heap.size (some ⟨F2, 0, none⟩) f2 (xs.take k ++ [(⟨node, now⟩ : LD)]) (by rw [HL1.out]; rfl) (if x = k then some ⟨X, 0, none⟩ else some ⟨X, k * 2, none⟩) (x - k) (xs.drop k) (by rw [HT2z.out]; rfl) FF4.out (HD.out V4 HV4.out) (by rw [HL1.out, HT2.out]; omega) HV4.out.size (fun e => by split at e <;> cases e) ?_
                              intro v5 V5 hA
                              obtain ⟨F3, f3, rfl, ho5⟩ := hA.at0
                              have HV5 : Hid (Below wB.heap.size wB V5) := HV4.out.trans hA.below
                              have FF5 := Lib.hid ho5
                              clear hA ho5
                              rw [HSP.out]
                              refine hK.out _ _ (trivial) (fun hHeld => ?_)
                              clear hK K
                              change wpAnyH _ _ _ _ _ _ _ (Act.put _ (some 91) _) _
                              simp only [Act.put, List.setIfInBounds_toArray, List.set_cons_zero, List.set_cons_succ]
                              refine wpAnyH_take (i := 14) (v := ?zv80096) rfl (by kernel_rfl) (by kernel_rfl) (by kernel_rfl) (fun _ _ _ h => h) (Or.inl ⟨by kernel_rfl, ?zy80096⟩) (by assumption) ?zr80096
                              case zy80096 => (intro w hSw; (try dsimp only at hSw); go_simp; try with_reducible rfl)
                              change wpAnyH _ _ _ _ _ _ _ (Act.put _ (some 6) _) _
                              simp only [Act.put, List.setIfInBounds_toArray, List.set_cons_zero, List.set_cons_succ]
                              refine wpAnyH_take (i := 15) (v := ?zv80097) rfl (by kernel_rfl) (by kernel_rfl) (by kernel_rfl) (fun _ _ _ h => h) (Or.inl ⟨by kernel_rfl, ?zy80097⟩) (by assumption) ?zr80097
                              case zy80097 => (intro w hSw; (try dsimp only at hSw); go_simp; try with_reducible rfl)
                              change wpAnyH _ _ _ _ _ _ _ (Act.put _ (some 7) _) _
                              simp only [Act.put, List.setIfInBounds_toArray, List.set_cons_zero, List.set_cons_succ]
                              refine wpAnyH_done (by kernel_rfl) ?_ _
                              have HBX : Hid (Below w.heap.size w V5) := HB.out.trans (HV5.out.mono HB.out.size)
                              go_wp2
                              all_goals (go_ret2; exact ⟨_, f3, by rw [HRL.out, HRO.out, HSP.out]; rfl, by rw [HRL.out]; exact (show OwnRow LK V5 w.heap.size _ _ _ from FF5.out.base_le HB.out.size), HBX.out⟩)
                      case zo80092_1 =>
                        go_simp
                        refine hK.out _ _ (trivial) (fun hHeld => ?_)
                        clear hK K
                        (try simp only [Act.put, List.setIfInBounds_toArray, List.set_cons_zero, List.set_cons_succ])
                        have hgap : V1.heap.size ≠ V0.heap.size := Nat.ne_of_gt (ownL_lt FF1.out)
                        obtain ⟨V2, EV2⟩ : ∃ U, Hid (V1.alloc (.cells #[.int .i64 node, .int .i64 now] 41) = U) := ⟨_, rfl⟩
                        have hc2 : Below V1.heap.size V1 V2 := by rw [← EV2.out]; exact (Below.refl _ _).alloc (Nat.le_refl _) _
                        have HV2 : Hid (Below wB.heap.size wB V2) := HV1.out.trans (hc2.mono HV1.out.size)
                        have FF2 := Lib.hid (FF1.out.below hc2)
                        have GG2 : Hid (RowAt LK V2 V2.heap.size (some ⟨V1.heap.size, 0, none⟩) [(⟨node, now⟩ : LD)]) := by rw [← EV2.out]; exact one_newR LK V1 ⟨node, now⟩ _
                        clear hc2
                        rw [EV2.out]
                        refine wpAnyH_ready (rs := [4]) (by kernel_rfl) (by simp) (AllReadyH.cons rfl (fun K hK => ?zo80098_0) AllReadyH.nil)
                        case zo80098_0 =>
                          refine step_app_row (K := LK) Try.underlying25 HI0.out.1 HI0.out.2.1 HI0.out.2.2.1 HI0.out.2.2.2.1 HI0.out.2.2.2.2 (by decide) rfl (.tmp 78) (.tmp 81) rfl V2 wB.heap.size (some ⟨V0.heap.size, 0, none⟩) 0 [] rfl (some ⟨X, 0, none⟩) x (xs.take k) (by rw [HT1.out]; rfl) FF2.out ((HRW.out V2 HV2.out).first k) (by rw [HT1.out]; simp; omega) HV2.out.size (fun e => by cases e) ?_
                          intro v5 V3 hA
                          obtain ⟨F1, f1, rfl, ho5⟩ := hA.at0
                          have HV3 : Hid (Below wB.heap.size wB V3) := HV2.out.trans hA.below
                          have GG3 := Lib.hid (oneL_kept GG2.out hA.grown hgap)
                          rw [List.nil_append] at ho5 ⊢
                          have FF3 := Lib.hid ho5
                          clear hA ho5
                          rw [HT1.out]
                          refine hK.out _ _ (trivial) (fun hHeld => ?_)
                          clear hK K
                          change wpAnyH _ _ _ _ _ _ _ (Act.put _ (some 82) _) _
                          simp only [Act.put, List.setIfInBounds_toArray, List.set_cons_zero, List.set_cons_succ]
                          refine wpAnyH_ready (rs := [9]) (by kernel_rfl) (by simp) (AllReadyH.cons rfl (fun K hK => ?zo80099_0) AllReadyH.nil)
                          case zo80099_0 =>
                            refine step_app_row (K := LK) Try.underlying25 HI0.out.1 HI0.out.2.1 HI0.out.2.2.1 HI0.out.2.2.2.1 HI0.out.2.2.2.2 (by decide) rfl (.tmp 82) (.tmp 86) rfl V3 wB.heap.size (some ⟨F1, 0, none⟩) f1 (xs.take k) (by rw [HT1.out]; rfl) (some ⟨V1.heap.size, 0, none⟩) 1 [(⟨node, now⟩ : LD)] rfl FF3.out GG3.out (by rw [HT1.out]; simp; omega) HV3.out.size (fun e => by cases e) ?_
                            intro v5 V4 hA
                            obtain ⟨F2, f2, rfl, ho5⟩ := hA.at0
                            have HV4 : Hid (Below wB.heap.size wB V4) := HV3.out.trans hA.below
                            have FF4 := Lib.hid ho5
                            clear hA ho5
                            rw [HL1.out]
                            refine hK.out _ _ (trivial) (fun hHeld => ?_)
                            clear hK K
                            change wpAnyH _ _ _ _ _ _ _ (Act.put _ (some 87) _) _
                            simp only [Act.put, List.setIfInBounds_toArray, List.set_cons_zero, List.set_cons_succ]
                            refine wpAnyH_ready (rs := [13]) (by kernel_rfl) (by simp) (AllReadyH.cons rfl (fun K hK => ?zo80100_0) AllReadyH.nil)
                            case zo80100_0 =>
                              refine step_app_row (K := LK) Try.underlying25 HI0.out.1 HI0.out.2.1 HI0.out.2.2.1 HI0.out.2.2.2.1 HI0.out.2.2.2.2 (by decide) rfl (.tmp 87) (.tmp 90) rfl V4 wB.heap.size (some ⟨F2, 0, none⟩) f2 (xs.take k ++ [(⟨node, now⟩ : LD)]) (by rw [HL1.out]; rfl) (if x = k then some ⟨X, 0, none⟩ else some ⟨X, k * 2, none⟩) (x - k) (xs.drop k) (by rw [HT2z.out]; rfl) FF4.out (HD.out V4 HV4.out) (by rw [HL1.out, HT2.out]; omega) HV4.out.size (fun e => by split at e <;> cases e) ?_
                              intro v5 V5 hA
                              obtain ⟨F3, f3, rfl, ho5⟩ := hA.at0
                              have HV5 : Hid (Below wB.heap.size wB V5) := HV4.out.trans hA.below
                              have FF5 := Lib.hid ho5
                              clear hA ho5
                              rw [HSP.out]
                              refine hK.out _ _ (trivial) (fun hHeld => ?_)
                              clear hK K
                              change wpAnyH _ _ _ _ _ _ _ (Act.put _ (some 91) _) _
                              simp only [Act.put, List.setIfInBounds_toArray, List.set_cons_zero, List.set_cons_succ]
                              refine wpAnyH_take (i := 14) (v := ?zv80101) rfl (by kernel_rfl) (by kernel_rfl) (by kernel_rfl) (fun _ _ _ h => h) (Or.inl ⟨by kernel_rfl, ?zy80101⟩) (by assumption) ?zr80101
                              case zy80101 => (intro w hSw; (try dsimp only at hSw); go_simp; try with_reducible rfl)
                              change wpAnyH _ _ _ _ _ _ _ (Act.put _ (some 6) _) _
                              simp only [Act.put, List.setIfInBounds_toArray, List.set_cons_zero, List.set_cons_succ]
                              refine wpAnyH_take (i := 15) (v := ?zv80102) rfl (by kernel_rfl) (by kernel_rfl) (by kernel_rfl) (fun _ _ _ h => h) (Or.inl ⟨by kernel_rfl, ?zy80102⟩) (by assumption) ?zr80102
                              case zy80102 => (intro w hSw; (try dsimp only at hSw); go_simp; try with_reducible rfl)
                              change wpAnyH _ _ _ _ _ _ _ (Act.put _ (some 7) _) _
                              simp only [Act.put, List.setIfInBounds_toArray, List.set_cons_zero, List.set_cons_succ]
                              refine wpAnyH_done (by kernel_rfl) ?_ _
                              have HBX : Hid (Below w.heap.size w V5) := HB.out.trans (HV5.out.mono HB.out.size)
                              go_wp2
                              all_goals (go_ret2; exact ⟨_, f3, by rw [HRL.out, HRO.out, HSP.out]; rfl, by rw [HRL.out]; exact (show OwnRow LK V5 w.heap.size _ _ _ from FF5.out.base_le HB.out.size), HBX.out⟩)
                    case zo80091_1 =>
                      go_simp
                      refine hK.out _ _ (trivial) (fun hHeld => ?_)
                      clear hK K
                      (try simp only [Act.put, List.setIfInBounds_toArray, List.set_cons_zero, List.set_cons_succ])
                      obtain ⟨V1, EV1⟩ : ∃ U, Hid (V0.alloc (.cells #[.int .i64 node, .int .i64 now] 41) = U) := ⟨_, rfl⟩
                      have hc1 : Below V0.heap.size V0 V1 := by rw [← EV1.out]; exact (Below.refl _ _).alloc (Nat.le_refl _) _
                      have HV1 : Hid (Below wB.heap.size wB V1) := HV0.out.trans (hc1.mono HV0.out.size)
                      have GG1 : Hid (RowAt LK V1 V1.heap.size (some ⟨V0.heap.size, 0, none⟩) [(⟨node, now⟩ : LD)]) := by rw [← EV1.out]; exact one_newR LK V0 ⟨node, now⟩ _
                      clear hc1
                      rw [EV1.out]
                      refine wpAnyH_ready (rs := [0]) (by kernel_rfl) (by simp) (AllReadyH.cons rfl (fun K hK => ?zo80103_0) AllReadyH.nil)
                      case zo80103_0 =>
                        go_simp
                        refine hK.out _ _ (trivial) (fun hHeld => ?_)
                        clear hK K
                        (try simp only [Act.put, List.setIfInBounds_toArray, List.set_cons_zero, List.set_cons_succ])
                        have hgap : V0.heap.size ≠ V1.heap.size := Nat.ne_of_lt (GG1.out.lt (Nat.succ_pos 0)).1
                        obtain ⟨V2, EV2⟩ : ∃ U, Hid (V1.alloc (.cells #[] 41) = U) := ⟨_, rfl⟩
                        have hc2 : Below V1.heap.size V1 V2 := by rw [← EV2.out]; exact (Below.refl _ _).alloc (Nat.le_refl _) _
                        have HV2 : Hid (Below wB.heap.size wB V2) := HV1.out.trans (hc2.mono HV1.out.size)
                        have GG2 := Lib.hid (GG1.out.belowS hc2)
                        have FF2 : Hid (OwnRow LK V2 wB.heap.size (some ⟨V1.heap.size, 0, none⟩) 0 []) := by rw [← EV2.out]; exact (OwnRow.new LK V1).base_le HV1.out.size
                        clear hc2
                        rw [EV2.out]
                        refine wpAnyH_ready (rs := [4]) (by kernel_rfl) (by simp) (AllReadyH.cons rfl (fun K hK => ?zo80104_0) AllReadyH.nil)
                        case zo80104_0 =>
                          refine step_app_row (K := LK) Try.underlying25 HI0.out.1 HI0.out.2.1 HI0.out.2.2.1 HI0.out.2.2.2.1 HI0.out.2.2.2.2 (by decide) rfl (.tmp 78) (.tmp 81) rfl V2 wB.heap.size (some ⟨V1.heap.size, 0, none⟩) 0 [] rfl (some ⟨X, 0, none⟩) x (xs.take k) (by rw [HT1.out]; rfl) FF2.out ((HRW.out V2 HV2.out).first k) (by rw [HT1.out]; simp; omega) HV2.out.size (fun e => by cases e) ?_
                          intro v5 V3 hA
                          obtain ⟨F1, f1, rfl, ho5⟩ := hA.at0
                          have HV3 : Hid (Below wB.heap.size wB V3) := HV2.out.trans hA.below
                          have GG3 := Lib.hid (oneL_kept GG2.out hA.grown hgap)
                          rw [List.nil_append] at ho5 ⊢
                          have FF3 := Lib.hid ho5
                          clear hA ho5
                          rw [HT1.out]
                          refine hK.out _ _ (trivial) (fun hHeld => ?_)
                          clear hK K
                          change wpAnyH _ _ _ _ _ _ _ (Act.put _ (some 82) _) _
                          simp only [Act.put, List.setIfInBounds_toArray, List.set_cons_zero, List.set_cons_succ]
                          refine wpAnyH_ready (rs := [9]) (by kernel_rfl) (by simp) (AllReadyH.cons rfl (fun K hK => ?zo80105_0) AllReadyH.nil)
                          case zo80105_0 =>
                            refine step_app_row (K := LK) Try.underlying25 HI0.out.1 HI0.out.2.1 HI0.out.2.2.1 HI0.out.2.2.2.1 HI0.out.2.2.2.2 (by decide) rfl (.tmp 82) (.tmp 86) rfl V3 wB.heap.size (some ⟨F1, 0, none⟩) f1 (xs.take k) (by rw [HT1.out]; rfl) (some ⟨V0.heap.size, 0, none⟩) 1 [(⟨node, now⟩ : LD)] rfl FF3.out GG3.out (by rw [HT1.out]; simp; omega) HV3.out.size (fun e => by cases e) ?_
                            intro v5 V4 hA
                            obtain ⟨F2, f2, rfl, ho5⟩ := hA.at0
                            have HV4 : Hid (Below wB.heap.size wB V4) := HV3.out.trans hA.below
                            have FF4 := Lib.hid ho5
                            clear hA ho5
                            rw [HL1.out]
                            refine hK.out _ _ (trivial) (fun hHeld => ?_)
                            clear hK K
                            change wpAnyH _ _ _ _ _ _ _ (Act.put _ (some 87) _) _
                            simp only [Act.put, List.setIfInBounds_toArray, List.set_cons_zero, List.set_cons_succ]
                            refine wpAnyH_ready (rs := [13]) (by kernel_rfl) (by simp) (AllReadyH.cons rfl (fun K hK => ?zo80106_0) AllReadyH.nil)
                            case zo80106_0 =>
                              refine step_app_row (K := LK) Try.underlying25 HI0.out.1 HI0.out.2.1 HI0.out.2.2.1 HI0.out.2.2.2.1 HI0.out.2.2.2.2 (by decide) rfl (.tmp 87) (.tmp 90) rfl V4 wB.heap.size (some ⟨F2, 0, none⟩) f2 (xs.take k ++ [(⟨node, now⟩ : LD)]) (by rw [HL1.out]; rfl) (if x = k then some ⟨X, 0, none⟩ else some ⟨X, k * 2, none⟩) (x - k) (xs.drop k) (by rw [HT2z.out]; rfl) FF4.out (HD.out V4 HV4.out) (by rw [HL1.out, HT2.out]; omega) HV4.out.size (fun e => by split at e <;> cases e) ?_
                              intro v5 V5 hA
                              obtain ⟨F3, f3, rfl, ho5⟩ := hA.at0
                              have HV5 : Hid (Below wB.heap.size wB V5) := HV4.out.trans hA.below
                              have FF5 := Lib.hid ho5
                              clear hA ho5
                              rw [HSP.out]
                              refine hK.out _ _ (trivial) (fun hHeld => ?_)
                              clear hK K
                              change wpAnyH _ _ _ _ _ _ _ (Act.put _ (some 91) _) _
                              simp only [Act.put, List.setIfInBounds_toArray, List.set_cons_zero, List.set_cons_succ]
                              refine wpAnyH_take (i := 14) (v := ?zv80107) rfl (by kernel_rfl) (by kernel_rfl) (by kernel_rfl) (fun _ _ _ h => h) (Or.inl ⟨by kernel_rfl, ?zy80107⟩) (by assumption) ?zr80107
                              case zy80107 => (intro w hSw; (try dsimp only at hSw); go_simp; try with_reducible rfl)
                              change wpAnyH _ _ _ _ _ _ _ (Act.put _ (some 6) _) _
                              simp only [Act.put, List.setIfInBounds_toArray, List.set_cons_zero, List.set_cons_succ]
                              refine wpAnyH_take (i := 15) (v := ?zv80108) rfl (by kernel_rfl) (by kernel_rfl) (by kernel_rfl) (fun _ _ _ h => h) (Or.inl ⟨by kernel_rfl, ?zy80108⟩) (by assumption) ?zr80108
                              case zy80108 => (intro w hSw; (try dsimp only at hSw); go_simp; try with_reducible rfl)
                              change wpAnyH _ _ _ _ _ _ _ (Act.put _ (some 7) _) _
                              simp only [Act.put, List.setIfInBounds_toArray, List.set_cons_zero, List.set_cons_succ]
                              refine wpAnyH_done (by kernel_rfl) ?_ _
                              have HBX : Hid (Below w.heap.size w V5) := HB.out.trans (HV5.out.mono HB.out.size)
                              go_wp2
                              all_goals (go_ret2; exact ⟨_, f3, by rw [HRL.out, HRO.out, HSP.out]; rfl, by rw [HRL.out]; exact (show OwnRow LK V5 w.heap.size _ _ _ from FF5.out.base_le HB.out.size), HBX.out⟩)

end Go.Proofs.Ytjefkpjjdloodaa
