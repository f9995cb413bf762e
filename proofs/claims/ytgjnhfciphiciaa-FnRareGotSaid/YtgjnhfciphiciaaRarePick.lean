/- Contract of RarePick. Conditions: the bits lie in memory. -/
import Derived.Test.YtgjnhfciphiciaaRareOrd
namespace Go.Proofs.Ytgjnhfciphiciaa
open Go.RowKit
set_option linter.unusedVariables false

theorem find_least {l : List Nat} {f : Nat → Bool} (hs : l.Pairwise (· < ·)) {x : Nat} (hx : x ∈ l) (hf : f x = true) (hm : ∀ y ∈ l, f y = true → x ≤ y) : l.find? f = some x := by
  induction l with
  | nil => cases hx
  | cons a l ih =>
    rw [List.pairwise_cons] at hs
    by_cases ha : f a = true
    · have h1 := hm a List.mem_cons_self ha
      have : a = x := by
        rcases List.mem_cons.1 hx with h | h
        · exact h.symm
        · have := hs.1 x h; omega
      subst this
      rw [List.find?_cons_of_pos ha]
    · rw [List.find?_cons_of_neg ha]
      have hx' : x ∈ l := by
        rcases List.mem_cons.1 hx with h | h
        · subst h; exact absurd hf ha
        · exact h
      exact ih hs.2 hx' fun y hy => hm y (List.mem_cons_of_mem _ hy)
theorem pickN_key (ps : List (List Bool)) (mine : List Bool) (p : Nat) : pickN ps mine p = ((if okP ps = true ∧ mine.length ≤ 16 then orderK ps mine else []).find? (fun k => bth (pth ps p) (k % 16))).map (· % 16) := by
  unfold pickN
  rw [orderN_map, List.find?_map]
  rfl
theorem order_mem {ps : List (List Bool)} {mine : List Bool} {qs : List Nat} (hp : qs.Perm (if okP ps = true ∧ mine.length ≤ 16 then wantK ps mine 16 else [])) : ∀ y, y ∈ qs ↔ y ∈ (if okP ps = true ∧ mine.length ≤ 16 then orderK ps mine else []) := fun y => by
  rw [hp.mem_iff]
  split
  · exact (want_order ps mine).mem_iff
  · exact Iff.rfl
theorem blk_found {ps : List (List Bool)} {mine : List Bool} {p x : Nat} {qs xs : List Nat} (hp : (qs ++ xs).Perm (if okP ps = true ∧ mine.length ≤ 16 then wantK ps mine 16 else [])) (hq : ∀ q ∈ qs, bth (pth ps p) (q % 16) = false) (hx : x ∈ xs) (hm : ∀ y ∈ xs, x ≤ y) (hf : bth (pth ps p) (x % 16) = true) : pickN ps mine p = some (x % 16) := by
  rw [pickN_key, find_least (x := x) ?_ ((order_mem hp x).1 (List.mem_append_right _ hx)) hf ?_]
  · rfl
  · split
    · exact orderTo_sorted _ _ _
    · exact List.Pairwise.nil
  · intro y hy hfy
    rcases List.mem_append.1 ((order_mem hp y).2 hy) with h | h
    · rw [hq y h] at hfy; cases hfy
    · exact hm y h
theorem blk_none {ps : List (List Bool)} {mine : List Bool} {p : Nat} {qs : List Nat} (hp : qs.Perm (if okP ps = true ∧ mine.length ≤ 16 then wantK ps mine 16 else [])) (hq : ∀ q ∈ qs, bth (pth ps p) (q % 16) = false) : pickN ps mine p = none := by
  rw [pickN_key, List.find?_eq_none.2 fun y hy => by rw [hq y ((order_mem hp y).2 hy)]; decide]
  rfl
theorem pickZ_out {ps : List (List Bool)} {mine : List Bool} {p : Int} (h : ¬ (0 ≤ p ∧ p < ps.length)) : pickZ ps mine p = -1 := by unfold pickZ; rw [if_neg h]
theorem pickZ_some {ps : List (List Bool)} {mine : List Bool} {p b : Nat} (hp : p < ps.length) (h : pickN ps mine p = some b) : pickZ ps mine (p : Int) = (b : Int) := by
  unfold pickZ; rw [if_pos ⟨by omega, by omega⟩, Int.toNat_natCast, h]
theorem pickZ_none {ps : List (List Bool)} {mine : List Bool} {p : Nat} (hp : p < ps.length) (h : pickN ps mine p = none) : pickZ ps mine (p : Int) = -1 := by
  unfold pickZ; rw [if_pos ⟨by omega, by omega⟩, Int.toNat_natCast, h]

set_option maxHeartbeats 3000000 in
set_option maxRecDepth 100000 in
theorem pick_blk_any (A : Option Addr) (cap : Nat) (hs : List PH) (M : Option Addr) (mc : Nat) (mine : List Bool) (p : Int) (w : World) (hP : PAt w w.heap.size A hs) (hM : BoolsAt w w.heap.size M mine) :
    Calls Try.prog 23 #[.slice A hs.length cap, .slice M mine.length mc, .int .i64 p] w fun e w' => e = .returned (.int .i64 (pickZ (pz hs) mine p)) ∧ Below w.heap.size w w' := by
  have C1 := Lib.hid (wanted_any A cap hs M mc mine _ hP hM)
  have HP := Lib.hid hP
  obtain ⟨n, HN⟩ : ∃ n, Hid (hs.length = n) := ⟨_, rfl⟩
  obtain ⟨m, HM⟩ : ∃ m, Hid (mine.length = m) := ⟨_, rfl⟩
  rw [HN.out, HM.out] at C1 ⊢
  clear hP hM
  by_cases h0 : p < 0
  · rw [pickZ_out (by omega)]
    go_enter Try.func23, Try.ntmps23
    go_wp2
    go_ret
    exact ⟨rfl, Below.refl _ _⟩
  · by_cases h1 : (n : Int) ≤ p
    · rw [pickZ_out (by rw [pz_length, HN.out]; omega)]
      go_enter Try.func23, Try.ntmps23
      go_wp2
      go_ret
      exact ⟨rfl, Below.refl _ _⟩
    · obtain ⟨q, rfl⟩ : ∃ q : Nat, p = (q : Int) := ⟨p.toNat, by omega⟩
      have hqn : q < n := by omega
      have hqi : (q : Int) < (n : Int) := by omega
      have HQZ : Hid (q < (pz hs).length) := by show _ < _; rw [pz_length, HN.out]; exact hqn
      have HBT : Hid (∀ (k : Nat) (w' : World), Below w.heap.size w w' → Calls Try.prog 41 #[.slice (hth hs q).a (hth hs q).zs.length (hth hs q).c, .int .i64 (k : Int)] w' fun e w'' => e = .returned (.bool (bth (pth (pz hs) q) k)) ∧ w'' = w') := fun k w' hb => by
        rw [pth_pz]
        exact bitSet_any _ _ k _ w' _ ((HP.out.below hb (Nat.le_refl _)).one q (by rw [HN.out]; exact hqn))
      have HCL : Hid (∀ w' : World, Below w.heap.size w w' → ∃ b o, A = some ⟨b, o, none⟩ ∧ w'.cell? ⟨b, o + q, none⟩ = some (.slice (hth hs q).a (hth hs q).zs.length (hth hs q).c)) := fun w' hb => by
        obtain ⟨b, o, h1, _, h2⟩ := (HP.out.below hb (Nat.le_refl _)).cell q (by rw [HN.out]; exact hqn)
        exact ⟨b, o, h1, h2⟩
      obtain ⟨ha, HA⟩ : ∃ x, Hid ((hth hs q).a = x) := ⟨_, rfl⟩
      obtain ⟨hn, HHN⟩ : ∃ x, Hid ((hth hs q).zs.length = x) := ⟨_, rfl⟩
      obtain ⟨hc, HHC⟩ : ∃ x, Hid ((hth hs q).c = x) := ⟨_, rfl⟩
      rw [HA.out, HHN.out, HHC.out] at HBT HCL
      go_enter Try.func23, Try.ntmps23
      go_wp2_with fail
      refine C1.out.mono ?_
      rintro e w1 ⟨g, b, ca, xs0, rfl, hH, hO, hl, hp, hb1⟩
      have HH := Lib.hid hH
      have HO := Lib.hid hO
      have HPP := Lib.hid hp
      have HB1 := Lib.hid hb1
      clear hH hO hp hb1 C1
      go_wp2
      go_loopg [] 16 (fun gg wr => ∃ (qs xs : List Nat), xs.length ≤ gg ∧ xs.length ≤ 16 ∧ Hid (Hp wr w.heap.size g (some ⟨b, 0, none⟩) ca xs) ∧ Hid (heapOK xs xs.length) ∧ Hid (∀ k ∈ qs, bth (pth (pz hs) q) (k % 16) = false) ∧ Hid ((qs ++ xs).Perm (if okP (pz hs) = true ∧ mine.length ≤ 16 then wantK (pz hs) mine 16 else [])) ∧ Hid (Below w.heap.size w wr))
      case atStart => exact ⟨[], xs0, hl, hl, HH, HO, (fun k hk => by cases hk), HPP, HB1⟩
      case round =>
        obtain ⟨qs, xs, hgg, hL, HH2, HO2, HNO, HP2, HB⟩ := hrel
        obtain ⟨l, HL⟩ : ∃ l, Hid (xs.length = l) := ⟨_, rfl⟩
        rw [HL.out] at hgg hL
        have hcl := HH2.out.cell
        rw [HL.out] at hcl
        by_cases hl0 : l = 0
        · subst hl0
          have hxs : xs = [] := List.eq_nil_of_length_eq_zero HL.out
          subst hxs
          have HE : Hid (pickZ (pz hs) mine (q : Int) = -1) := pickZ_none HQZ.out (blk_none (by have := HP2.out; rw [List.append_nil] at this; exact this) HNO.out)
          go_wp2_with fail
          refine (hlen_any _ _ _ _).mono ?_
          rintro e w3 ⟨rfl, rfl⟩
          go_wp2
          go_ret
          exact ⟨by rw [HE.out]; rfl, HB.out⟩
        · obtain ⟨l1, rfl⟩ : ∃ l1, l = l1 + 1 := ⟨l - 1, by omega⟩
          have hpos : (0 : Int) < ((l1 + 1 : Nat) : Int) := by omega
          have C2 := Lib.hid (rarest_any w.heap.size g b ca l1 xs wr HH2.out HL.out (by omega) (by have := HO2.out; rw [HL.out] at this; exact this))
          go_wp2_with fail
          refine (hlen_any _ _ _ _).mono ?_
          rintro e w3 ⟨rfl, rfl⟩
          go_wp2_with fail
          refine C2.out.mono ?_
          rintro e w4 ⟨x, rfl, ys, h1, h2, h3, h4, h5⟩
          have HH4 := Lib.hid h1
          have hly : ys.length = l1 := by have := h2.length_eq; rw [List.length_cons, HL.out] at this; omega
          have HLY := Lib.hid hly
          have HO4 : Hid (heapOK ys ys.length) := by show heapOK _ _; rw [hly]; exact h3
          have HX4 : Hid (x ∈ xs) := h2.mem_iff.1 List.mem_cons_self
          have HM4 := Lib.hid h4
          have HP4 : Hid ((qs ++ [x] ++ ys).Perm (if okP (pz hs) = true ∧ mine.length ≤ 16 then wantK (pz hs) mine 16 else [])) := by
            show List.Perm _ _
            rw [List.append_assoc]
            exact (List.Perm.append_left qs h2).trans HP2.out
          have HB4 : Hid (Below w.heap.size w w4) := HB.out.trans (h5.below HH2.out.le ((HH2.out.own.lies b rfl).1) HB.out.size)
          have C3 := Lib.hid (HBT.out (x % 16) w4 HB4.out)
          have HXZ : Hid (blkZ x = ((x % 16 : Nat) : Int)) := rfl
          obtain ⟨kx, HKX⟩ : ∃ k, Hid (x % 16 = k) := ⟨_, rfl⟩
          rw [HKX.out] at C3 HXZ
          rw [HXZ.out]
          obtain ⟨b0, o0, rfl, hcell⟩ := HCL.out w4 HB4.out
          clear h1 h2 h3 h4 h5 hly C2
          cases hv : bth (pth (pz hs) q) kx with
          | true =>
            rw [hv] at C3
            have HE : Hid (pickZ (pz hs) mine (q : Int) = (kx : Int)) := pickZ_some HQZ.out (by rw [← HKX.out]; exact blk_found HP2.out HNO.out HX4.out HM4.out (by rw [HKX.out]; exact hv))
            clear hv
            go_wp2_with fail
            refine C3.out.mono ?_
            rintro e w5 ⟨rfl, rfl⟩
            go_wp2
            go_ret
            exact ⟨by rw [HE.out]; rfl, HB4.out⟩
          | false =>
            rw [hv] at C3
            have HNO4 : Hid (∀ k ∈ qs ++ [x], bth (pth (pz hs) q) (k % 16) = false) := fun k hk => by
              rcases List.mem_append.1 hk with h | h
              · exact HNO.out k h
              · rw [List.mem_singleton.1 h, HKX.out]; exact hv
            clear hv
            go_wp2_with fail
            refine C3.out.mono ?_
            rintro e w5 ⟨rfl, rfl⟩
            clear C3
            go_wp2
            go_roundg l1
            case measure => omega
            case rel => exact ⟨qs ++ [x], ys, by rw [HLY.out]; exact Nat.le_refl _, by rw [HLY.out]; omega, HH4, HO4, HNO4, HP4, HB4⟩

end Go.Proofs.Ytgjnhfciphiciaa
