/- Contracts of message, inRange, HeadCheck and their models: whether a head is signed. No conditions but those that each contract says. Contracts of HeadCheck and of its model: whether a head is signed. No conditions. Contract of the model of HeadCheck: whether a head is signed. No conditions. Contracts of HeadMake and of its model: the head of leaves. Conditions: the leaves lie in memory. HeadMake  -/
import Derived.Test.YtkmebilhbjcfpaaGreatBaseA
import Derived.BigQuiet
import Derived.Deep.QuietTactic
import Derived.Deep.RegionHeld3
import Derived.IntWalk
import Derived.Test.YtkmebilhbjcfpaaGreatBaseB
namespace Go.Proofs.YtkmebilhbjcfpaaGreat
open Go.RowKit
set_option linter.unusedVariables false

theorem bcell {W w1 : World} (hb : Below W.heap.size W w1) : (∀ b o, b < W.heap.size → w1.cell? ⟨b, o, none⟩ = W.cell? ⟨b, o, none⟩) ∧ (∀ b o, b < W.heap.size → w1.frozen? ⟨b, o, none⟩ = W.frozen? ⟨b, o, none⟩) :=
  ⟨fun b o h => hb.cell (p := ⟨b, o, none⟩) h, fun b o h => hb.frozen (p := ⟨b, o, none⟩) h⟩

set_option maxHeartbeats 800000 in
theorem message_any (d n s : Int) (w : World) (h0 : 0 ≤ n) (h1 : n ≤ 16) (h2 : 0 ≤ d) (h3 : d < 991) :
    Calls Tryz.prog 152 #[.agg #[.int .i64 d, .int .i64 n, .int .i64 s]] w fun e w' => e = .returned (.int .i64 (msgZ n d)) ∧ Below w.heap.size w w' := by
  obtain ⟨b0, b1⟩ := pairZ_bd n d
  go_enter Tryz.func152, Tryz.ntmps152
  go_wp2_with fail
  refine (with_any _ _ _ (by omega) (by omega) (by omega) (by omega)).mono ?_
  rintro e w' ⟨rfl, rfl⟩
  go_wp2
  go_ret
  exact ⟨rfl, (Below.refl _ _).alloc (Nat.le_refl _) _⟩

set_option maxHeartbeats 800000 in
theorem range_yes (d n s : Int) (w : World) (h0 : 0 ≤ n) (h1 : n ≤ 16) (h2 : 0 ≤ d) (h3 : d < 991) (h4 : 1 ≤ s) (h5 : s < 997) :
    Calls Tryz.prog 151 #[.agg #[.int .i64 d, .int .i64 n, .int .i64 s]] w fun e w' => e = .returned (.bool true) ∧ Below w.heap.size w w' := by
  go_enter Tryz.func151, Tryz.ntmps151
  go_wp2_with fail
  refine (valid_yes _ _ h2 h3).mono ?_
  rintro e w' ⟨rfl, rfl⟩
  go_wp2_with fail
  refine (key_yes _ _ h4 h5).mono ?_
  rintro e w' ⟨rfl, rfl⟩
  go_wp2
  go_ret
  exact ⟨rfl, (Below.refl _ _).alloc (Nat.le_refl _) _⟩

set_option maxHeartbeats 1600000 in
theorem range_no (d n s : Int) (w : World) (h : ¬ ((0 ≤ n ∧ n ≤ 16) ∧ (0 ≤ d ∧ d < 991) ∧ (1 ≤ s ∧ s < 997))) :
    Calls Tryz.prog 151 #[.agg #[.int .i64 d, .int .i64 n, .int .i64 s]] w fun e w' => e = .returned (.bool false) ∧ Below w.heap.size w w' := by
  by_cases h0 : 0 ≤ n
  · by_cases h1 : n ≤ 16
    · by_cases h2 : 0 ≤ d ∧ d < 991
      · have H3 : Hid (¬ (1 ≤ s ∧ s < 997)) := fun k => h ⟨⟨h0, h1⟩, h2, k⟩
        obtain ⟨d0, d1⟩ := h2
        clear h
        go_enter Tryz.func151, Tryz.ntmps151
        go_wp2_with fail
        refine (valid_yes _ _ d0 d1).mono ?_
        rintro e w' ⟨rfl, rfl⟩
        go_wp2_with fail
        refine (key_no _ _ H3.out).mono ?_
        rintro e w' ⟨rfl, rfl⟩
        go_wp2
        go_ret
        exact ⟨rfl, (Below.refl _ _).alloc (Nat.le_refl _) _⟩
      · have H2 := Lib.hid h2
        clear h h2
        go_enter Tryz.func151, Tryz.ntmps151
        go_wp2_with fail
        refine (valid_no _ _ H2.out).mono ?_
        rintro e w' ⟨rfl, rfl⟩
        go_wp2
        go_ret
        exact ⟨rfl, (Below.refl _ _).alloc (Nat.le_refl _) _⟩
    · clear h
      go_enter Tryz.func151, Tryz.ntmps151
      go_wp2
      go_ret
      exact ⟨rfl, (Below.refl _ _).alloc (Nat.le_refl _) _⟩
  · clear h
    go_enter Tryz.func151, Tryz.ntmps151
    go_wp2
    go_ret
    exact ⟨rfl, (Below.refl _ _).alloc (Nat.le_refl _) _⟩

end Go.Proofs.YtkmebilhbjcfpaaGreat

namespace Go.Proofs.YtkmebilhbjcfpaaGreat
open Go.RowKit
set_option linter.unusedVariables false

set_option maxHeartbeats 1600000 in
theorem check_any (p l d s : Int) (w : World) :
    Calls Tryz.prog 117 #[.int .i64 p, .agg #[.int .i64 l, .int .i64 d, .int .i64 s]] w fun e w' => e = .returned (.bool (signedB p l d s)) ∧ Below w.heap.size w w' := by
  by_cases hp : 1 ≤ p ∧ p < 997
  · by_cases hr : (0 ≤ l ∧ l ≤ 16) ∧ (0 ≤ d ∧ d < 991) ∧ (1 ≤ s ∧ s < 997)
    · have HE : Hid (signedB p l d s = (s * 5 % 997 == p * msgZ l d % 997)) := by
        show _ = _
        unfold signedB
        rw [Bool.eq_iff_iff, decide_eq_true_eq, beq_iff_eq]
        exact ⟨fun h => h.2.2.2.2, fun h => ⟨hp, hr.1, hr.2.1, hr.2.2, h⟩⟩
      obtain ⟨p0, p1⟩ := hp
      obtain ⟨⟨l0, l1⟩, ⟨d0, d1⟩, s0, s1⟩ := hr
      obtain ⟨m0, m1⟩ := msgZ_bd l d
      rw [HE.out]
      go_enter Tryz.func117, Tryz.ntmps117
      go_wp2_with fail
      go_region
      go_wp2_with fail
      refine (key_yes _ _ p0 p1).mono ?_
      rintro e w' ⟨rfl, rfl⟩
      go_wp2_with fail
      refine (range_yes d l s _ l0 l1 d0 d1 s0 s1).mono ?_
      rintro e V ⟨rfl, hb⟩
      have HB : Hid (Below w.heap.size w V) := (below_drew (((Below.refl _ _).alloc (Nat.le_refl _) _).alloc (by simp) _)).trans (hb.mono (by simp; omega))
      have hz : w.heap.size + 1 < V.heap.size := by have := hb.size; simp at this; omega
      have hblk : Blk V (w.heap.size + 1) 179 #[.int .i64 d, .int .i64 l, .int .i64 s] := by
        have h := Blk.new (w.alloc (.cells #[.int .i64 l, .int .i64 d, .int .i64 s] 52)) 179 #[.int .i64 d, .int .i64 l, .int .i64 s]
        rw [World.size_alloc] at h
        exact Blk.below (w := ((w.alloc (.cells #[.int .i64 l, .int .i64 d, .int .i64 s] 52)).alloc (.cells #[.int .i64 d, .int .i64 l, .int .i64 s] 179)).drew) h hb (by simp)
      have c0 := hblk.cell 0
      have c1 := hblk.cell 1
      have c2 := hblk.cell 2
      simp only [List.getElem?_toArray] at c0 c1 c2
      have C0 : V.cell? ⟨w.heap.size + 1, 0, none⟩ = some (.int .i64 d) := c0
      have C1 : V.cell? ⟨w.heap.size + 1, 1, none⟩ = some (.int .i64 l) := c1
      have C2 : V.cell? ⟨w.heap.size + 1, 2, none⟩ = some (.int .i64 s) := c2
      clear hb hblk c0 c1 c2
      go_wp2_with fail
      go_region_held3 (fun w' => w'.cell? ⟨w.heap.size + 1, 0, none⟩ = some (.int .i64 d) ∧ w'.cell? ⟨w.heap.size + 1, 1, none⟩ = some (.int .i64 l) ∧ w'.cell? ⟨w.heap.size + 1, 2, none⟩ = some (.int .i64 s)) (go_keep)
        (first
          | (go_at_call 122; (with_reducible refine (times_any _ _ _ (by omega) (by omega) (by omega) (by omega)).mono ?_); rintro e w' ⟨rfl, rfl⟩)
          | (go_at_call 152; (with_reducible refine (message_any d l s _ l0 l1 d0 d1).mono ?_); rintro e w6 ⟨rfl, hb6⟩; have HB6 : Hid (Below V.heap.size V w6) := below_drew_l hb6; have e1 : w6.cell? ⟨w.heap.size + 1, 0, none⟩ = some (.int .i64 d) := ((HB6.out.cell (p := ⟨w.heap.size + 1, 0, none⟩) hz).trans C0); have e2 : w6.cell? ⟨w.heap.size + 1, 1, none⟩ = some (.int .i64 l) := ((HB6.out.cell (p := ⟨w.heap.size + 1, 1, none⟩) hz).trans C1); have e3 : w6.cell? ⟨w.heap.size + 1, 2, none⟩ = some (.int .i64 s) := ((HB6.out.cell (p := ⟨w.heap.size + 1, 2, none⟩) hz).trans C2); clear hb6))
      go_wp2
      go_ret
      exact ⟨rfl, HB.out.trans (HB6.out.mono HB.out.size)⟩
    · have HE : Hid (signedB p l d s = false) := signedB_no fun k => hr ⟨k.2.1, k.2.2.1, k.2.2.2.1⟩
      have HR := Lib.hid hr
      clear hr
      obtain ⟨p0, p1⟩ := hp
      rw [HE.out]
      go_enter Tryz.func117, Tryz.ntmps117
      go_wp2_with fail
      go_region
      go_wp2_with fail
      refine (key_yes _ _ p0 p1).mono ?_
      rintro e w' ⟨rfl, rfl⟩
      go_wp2_with fail
      refine (range_no d l s _ HR.out).mono ?_
      rintro e V ⟨rfl, hb⟩
      have HB : Hid (Below w.heap.size w V) := (below_drew (((Below.refl _ _).alloc (Nat.le_refl _) _).alloc (by simp) _)).trans (hb.mono (by simp; omega))
      clear hb
      go_wp2
      go_ret
      exact ⟨rfl, HB.out⟩
  · have HE : Hid (signedB p l d s = false) := signedB_no fun k => hp k.1
    have HP := Lib.hid hp
    clear hp
    rw [HE.out]
    go_enter Tryz.func117, Tryz.ntmps117
    go_wp2_with fail
    go_region
    go_wp2_with fail
    refine (key_no _ _ HP.out).mono ?_
    rintro e w' ⟨rfl, rfl⟩
    go_wp2
    go_ret
    exact ⟨rfl, below_drew (((Below.refl _ _).alloc (Nat.le_refl _) _).alloc (by simp) _)⟩

end Go.Proofs.YtkmebilhbjcfpaaGreat

namespace Go.Proofs.YtkmebilhbjcfpaaGreat
open Go.RowKit
set_option linter.unusedVariables false

set_option maxHeartbeats 4000000 in
set_option maxRecDepth 100000 in
theorem scheck_any (p l d s : Int) (w : World) :
    Calls Tryz.prog 55 #[.int .i64 p, .agg #[.int .i64 l, .int .i64 d, .int .i64 s]] w fun e w' => e = .returned (.bool (signedB p l d s)) ∧ Below w.heap.size w w' := by
  by_cases hp : 1 ≤ p ∧ p < 997
  · by_cases hl : 0 ≤ l ∧ l ≤ 16
    · by_cases hd : 0 ≤ d ∧ d < 991
      · by_cases hs : 1 ≤ s ∧ s < 997
        · have HE : Hid (signedB p l d s = (s * 5 % 997 == p * msgZ l d % 997)) := by
            show _ = _
            unfold signedB
            rw [Bool.eq_iff_iff, decide_eq_true_eq, beq_iff_eq]
            exact ⟨fun h => h.2.2.2.2, fun h => ⟨hp, hl, hd, hs, h⟩⟩
          obtain ⟨m0, m1⟩ := msgZ_bd l d
          obtain ⟨q0, q1⟩ := mul_bd p (msgZ l d) (by omega) (by omega) (by omega) (by omega)
          obtain ⟨p0, p1⟩ := hp
          obtain ⟨l0, l1⟩ := hl
          obtain ⟨d0, d1⟩ := hd
          obtain ⟨s0, s1⟩ := hs
          have k1 : IntKind.i64.wrap (s * 5) = s * 5 := IntWalk.i64_in _ (by omega)
          have k2 : IntKind.i64.wrap (p * msgZ l d) = p * msgZ l d := IntWalk.i64_in _ (by omega)
          have k3 : (s * 5).tmod 997 = s * 5 % 997 := Int.tmod_eq_emod_of_nonneg (by omega)
          have k4 : (p * msgZ l d).tmod 997 = p * msgZ l d % 997 := Int.tmod_eq_emod_of_nonneg (by omega)
          rw [HE.out]
          go_enter Tryz.func55, Tryz.ntmps55
          go_wp2_with fail
          go_quiet ((first | (go_at_call 50; exact quiet_left (skey_yes _ _ (by omega) (by omega))) | (go_at_call 51; exact quiet_left (in_yes _ _ _ _ l0 l1)) | (go_at_call 104; exact quiet_left (sdig_yes _ _ d0 d1)) | (go_at_call 105; exact quiet_left (smsg_any _ _ _ l0 l1 d0 d1))))
          clear k1 k2 k3 k4
          go_wp2
          go_ret
          exact ⟨rfl, below_drewN ((Below.refl _ _).alloc (Nat.le_refl _) _) _⟩
        · have HE : Hid (signedB p l d s = false) := signedB_no fun k => hs k.2.2.2.1
          have HS := Lib.hid hs
          obtain ⟨p0, p1⟩ := hp
          obtain ⟨l0, l1⟩ := hl
          obtain ⟨d0, d1⟩ := hd
          clear hs
          rw [HE.out]
          go_enter Tryz.func55, Tryz.ntmps55
          go_wp2_with fail
          go_quiet ((first | (go_at_call 50; exact quiet_left (skey_yes _ _ p0 p1)) | (go_at_call 51; exact quiet_left (in_yes _ _ _ _ l0 l1)) | (go_at_call 104; exact quiet_left (sdig_yes _ _ d0 d1)) | (go_at_call 50; exact quiet_left (skey_no _ _ HS.out))))
          go_wp2
          go_ret
          exact ⟨rfl, below_drewN ((Below.refl _ _).alloc (Nat.le_refl _) _) _⟩
      · have HE : Hid (signedB p l d s = false) := signedB_no fun k => hd k.2.2.1
        have HS := Lib.hid hd
        obtain ⟨p0, p1⟩ := hp
        obtain ⟨l0, l1⟩ := hl
        clear hd
        rw [HE.out]
        go_enter Tryz.func55, Tryz.ntmps55
        go_wp2_with fail
        go_quiet ((first | (go_at_call 50; exact quiet_left (skey_yes _ _ p0 p1)) | (go_at_call 51; exact quiet_left (in_yes _ _ _ _ l0 l1)) | (go_at_call 104; exact quiet_left (sdig_no _ _ HS.out))))
        go_wp2
        go_ret
        exact ⟨rfl, below_drewN ((Below.refl _ _).alloc (Nat.le_refl _) _) _⟩
    · have HE : Hid (signedB p l d s = false) := signedB_no fun k => hl k.2.1
      have HS := Lib.hid hl
      obtain ⟨p0, p1⟩ := hp
      clear hl
      rw [HE.out]
      go_enter Tryz.func55, Tryz.ntmps55
      go_wp2_with fail
      go_quiet ((first | (go_at_call 50; exact quiet_left (skey_yes _ _ p0 p1)) | (go_at_call 51; exact quiet_left (in_no _ _ _ _ HS.out))))
      go_wp2
      go_ret
      exact ⟨rfl, below_drewN ((Below.refl _ _).alloc (Nat.le_refl _) _) _⟩
  · have HE : Hid (signedB p l d s = false) := signedB_no fun k => hp k.1
    have HS := Lib.hid hp
    clear hp
    rw [HE.out]
    go_enter Tryz.func55, Tryz.ntmps55
    go_wp2_with fail
    go_quiet ((first | (go_at_call 50; exact quiet_left (skey_no _ _ HS.out))))
    go_wp2
    go_ret
    exact ⟨rfl, below_drewN ((Below.refl _ _).alloc (Nat.le_refl _) _) _⟩

end Go.Proofs.YtkmebilhbjcfpaaGreat

namespace Go.Proofs.YtkmebilhbjcfpaaGreat
open Go.RowKit
set_option linter.unusedVariables false

theorem Blk.setOther {w : World} {g : Nat} {t : TypeId} {cs : Array Value} (h : Blk w g t cs) {p : Addr} (hne : p.block ≠ g) (v : Value) : Blk (w.setCell p v) g t cs := (Below.heap_setCell w p v g (fun e => hne e.symm)).trans h
theorem Blk.setOwn {w : World} {g : Nat} {t : TypeId} {cs : Array Value} (h : Blk w g t cs) (i : Nat) (v : Value) : Blk (w.setCell ⟨g, i, none⟩ v) g t (cs.setIfInBounds i v) := by
  unfold Blk at h ⊢
  simp only [World.setCell, Array.getElem?_modify, h]
  simp

/-- A head as a value. -/
abbrev headV (l d s : Int) : Value := .agg #[.int .i64 l, .int .i64 d, .int .i64 s]

set_option maxHeartbeats 2000000 in
set_option maxRecDepth 100000 in
theorem make_yes (s : Int) (zs : List Int) (b o cap : Nat) (w : World) (hs0 : 1 ≤ s) (hs1 : s < 997) (hv : leavesB zs = true) (hI : IntsAt w w.heap.size (some ⟨b, o, none⟩) zs) (hcap : zs.length ≤ cap) (hmax : cap ≤ maxLen) :
    Calls Tryz.prog 125 #[.int .i64 s, .slice (some ⟨b, o, none⟩) zs.length cap] w fun e w' => e = .returned (.tuple #[headV zs.length (digestZ zs) (signZ s (msgZ zs.length (digestZ zs))), .bool true]) ∧ Below w.heap.size w w' := by
  have HI := Lib.hid hI
  have HM := Lib.hid hmax
  have HC := Lib.hid hcap
  have HV := Lib.hid hv
  obtain ⟨h16, hd⟩ := leavesB_yes hv
  have HE : Hid (digestOr zs = digestZ zs) := by show _ = _; unfold digestOr; rw [hv]; rfl
  obtain ⟨t0, t1⟩ : 0 ≤ digestZ zs ∧ digestZ zs < 991 := foldZ_bd zs.length (coverZ zs 0) (by omega) (by omega)
  obtain ⟨t, HT⟩ : ∃ t, Hid (digestZ zs = t) := ⟨_, rfl⟩
  rw [HT.out] at t0 t1 ⊢
  clear hI hmax hcap hv hd
  obtain ⟨m0, m1⟩ := msgZ_bd zs.length t
  go_enter Tryz.func125, Tryz.ntmps125
  go_wp2_with fail
  refine (key_yes _ _ hs0 hs1).mono ?_
  rintro e w' ⟨rfl, rfl⟩
  go_wp2_with fail
  refine (leaves_any _ _ zs _ (HI.out.allocS _) (Nat.le_trans HC.out HM.out)).mono ?_
  rintro e w' ⟨rfl, rfl⟩
  rw [HV.out]
  go_wp2_with fail
  refine (digest_any zs b o cap _ (HI.out.allocS _) HC.out HM.out).mono ?_
  rintro e w1 ⟨rfl, hb1⟩
  rw [HE.out, HT.out]
  obtain ⟨n, HN⟩ : ∃ n, Hid (zs.length = n) := ⟨_, rfl⟩
  rw [HN.out] at h16 m0 m1 ⊢
  obtain ⟨bc1, bf1⟩ := bcell hb1
  have hz1 : w.heap.size < w1.heap.size := by have := hb1.size; simp at this; omega
  have HB1 := Lib.hid hb1
  clear hb1
  go_wp2_with fail
  refine (message_any t n 0 _ (by omega) (by omega) t0 t1).mono ?_
  rintro e w2 ⟨rfl, hb2⟩
  obtain ⟨bc2, bf2⟩ := bcell hb2
  have hz2 : w1.heap.size < w2.heap.size := by have := hb2.size; simp at this; omega
  have HB2 := Lib.hid hb2
  clear hb2
  go_wp2_with fail
  refine (times_any _ _ _ (by omega) (by omega) (by omega) (by omega)).mono ?_
  rintro e w' ⟨rfl, rfl⟩
  go_wp2
  have hblk : Blk ((((w2.setCell ⟨w1.heap.size, 2, none⟩ (.int .i64 (s * msgZ n t % 997))).setCell ⟨w.heap.size, 0, none⟩ (.int .i64 n)).setCell ⟨w.heap.size, 1, none⟩ (.int .i64 t)).setCell ⟨w.heap.size, 2, none⟩ (.int .i64 (s * msgZ n t % 997))) w.heap.size 52 #[.int .i64 n, .int .i64 t, .int .i64 (s * msgZ n t % 997)] := by
    have h1 := ((Blk.new w 52 #[.int .i64 0, .int .i64 0, .int .i64 0]).below HB1.out (by simp)).alloc (.cells #[.int .i64 t, .int .i64 n, .int .i64 0] 179)
    have h2 := (h1.below HB2.out (by simp; omega)).setOther (p := ⟨w1.heap.size, 2, none⟩) (by show w1.heap.size ≠ w.heap.size; omega) (.int .i64 (s * msgZ n t % 997))
    exact ((h2.setOwn 0 (.int .i64 n)).setOwn 1 (.int .i64 t)).setOwn 2 (.int .i64 (s * msgZ n t % 997))
  have hbel : Below w.heap.size w ((((w2.setCell ⟨w1.heap.size, 2, none⟩ (.int .i64 (s * msgZ n t % 997))).setCell ⟨w.heap.size, 0, none⟩ (.int .i64 n)).setCell ⟨w.heap.size, 1, none⟩ (.int .i64 t)).setCell ⟨w.heap.size, 2, none⟩ (.int .i64 (s * msgZ n t % 997))) := by
    have h1 : Below w.heap.size w w2 := ((((Below.refl _ w).alloc (Nat.le_refl _) _).trans (HB1.out.mono (by simp))).alloc (by omega) _).trans (HB2.out.mono (by simp; omega))
    exact (((h1.setCell (p := ⟨w1.heap.size, 2, none⟩) (by show w.heap.size ≤ w1.heap.size; omega) _).setCell (p := ⟨w.heap.size, 0, none⟩) (Nat.le_refl _) _).setCell (p := ⟨w.heap.size, 1, none⟩) (Nat.le_refl _) _).setCell (p := ⟨w.heap.size, 2, none⟩) (Nat.le_refl _) _
  obtain ⟨W, HW⟩ : ∃ W, Hid ((((w2.setCell ⟨w1.heap.size, 2, none⟩ (.int .i64 (s * msgZ n t % 997))).setCell ⟨w.heap.size, 0, none⟩ (.int .i64 n)).setCell ⟨w.heap.size, 1, none⟩ (.int .i64 t)).setCell ⟨w.heap.size, 2, none⟩ (.int .i64 (s * msgZ n t % 997)) = W) := ⟨_, rfl⟩
  rw [HW.out] at hblk hbel ⊢
  have c0 : W.cell? ⟨w.heap.size, 0, none⟩ = some (.int .i64 n) := hblk.cell 0
  have c1 : W.cell? ⟨w.heap.size, 1, none⟩ = some (.int .i64 t) := hblk.cell 1
  have c2 : W.cell? ⟨w.heap.size, 2, none⟩ = some (.int .i64 (s * msgZ n t % 997)) := hblk.cell 2
  exact bodyPost_ret (v := .tuple #[headV n t (s * msgZ n t % 997), .bool true]) (by simp [results, Tryz.results125, go_sem, c0, c1, c2]) rfl ⟨by rw [HN.out]; rfl, hbel⟩

set_option maxHeartbeats 2000000 in
set_option maxRecDepth 100000 in
theorem make_no (s : Int) (zs : List Int) (A : Option Addr) (cap : Nat) (w : World) (h : ¬ ((1 ≤ s ∧ s < 997) ∧ leavesB zs = true)) (hI : IntsAt w w.heap.size A zs) (hmax : zs.length ≤ maxLen) :
    Calls Tryz.prog 125 #[.int .i64 s, .slice A zs.length cap] w fun e w' => e = .returned (.tuple #[headV 0 0 0, .bool false]) ∧ Below w.heap.size w w' := by
  have HI := Lib.hid hI
  have HM := Lib.hid hmax
  clear hI hmax
  by_cases hs : 1 ≤ s ∧ s < 997
  · have HV : Hid (leavesB zs = false) := by
      show _ = _
      rw [Bool.eq_false_iff]
      exact fun e => h ⟨hs, e⟩
    obtain ⟨hs0, hs1⟩ := hs
    clear h
    go_enter Tryz.func125, Tryz.ntmps125
    go_wp2_with fail
    refine (key_yes _ _ hs0 hs1).mono ?_
    rintro e w' ⟨rfl, rfl⟩
    go_wp2_with fail
    refine (leaves_any _ _ zs _ (HI.out.allocS _) HM.out).mono ?_
    rintro e w' ⟨rfl, rfl⟩
    rw [HV.out]
    go_wp2
    have hblk : Blk (w.alloc (.cells #[.int .i64 0, .int .i64 0, .int .i64 0] 52)) w.heap.size 52 #[.int .i64 0, .int .i64 0, .int .i64 0] :=
      Blk.new w 52 #[.int .i64 0, .int .i64 0, .int .i64 0]
    have hbel : Below w.heap.size w (w.alloc (.cells #[.int .i64 0, .int .i64 0, .int .i64 0] 52)) :=
      (Below.refl _ w).alloc (Nat.le_refl _) _
    obtain ⟨W, HW⟩ : ∃ W, Hid ((w.alloc (.cells #[.int .i64 0, .int .i64 0, .int .i64 0] 52)) = W) := ⟨_, rfl⟩
    rw [HW.out] at hblk hbel ⊢
    have c0 : W.cell? ⟨w.heap.size, 0, none⟩ = some (.int .i64 0) := hblk.cell 0
    have c1 : W.cell? ⟨w.heap.size, 1, none⟩ = some (.int .i64 0) := hblk.cell 1
    have c2 : W.cell? ⟨w.heap.size, 2, none⟩ = some (.int .i64 0) := hblk.cell 2
    exact bodyPost_ret (v := .tuple #[headV 0 0 0, .bool false]) (by simp [results, Tryz.results125, go_sem, c0, c1, c2]) rfl ⟨rfl, hbel⟩
  · have HS := Lib.hid hs
    clear h hs
    go_enter Tryz.func125, Tryz.ntmps125
    go_wp2_with fail
    refine (key_no _ _ HS.out).mono ?_
    rintro e w' ⟨rfl, rfl⟩
    go_wp2
    have hblk : Blk (w.alloc (.cells #[.int .i64 0, .int .i64 0, .int .i64 0] 52)) w.heap.size 52 #[.int .i64 0, .int .i64 0, .int .i64 0] :=
      Blk.new w 52 #[.int .i64 0, .int .i64 0, .int .i64 0]
    have hbel : Below w.heap.size w (w.alloc (.cells #[.int .i64 0, .int .i64 0, .int .i64 0] 52)) :=
      (Below.refl _ w).alloc (Nat.le_refl _) _
    obtain ⟨W, HW⟩ : ∃ W, Hid ((w.alloc (.cells #[.int .i64 0, .int .i64 0, .int .i64 0] 52)) = W) := ⟨_, rfl⟩
    rw [HW.out] at hblk hbel ⊢
    have c0 : W.cell? ⟨w.heap.size, 0, none⟩ = some (.int .i64 0) := hblk.cell 0
    have c1 : W.cell? ⟨w.heap.size, 1, none⟩ = some (.int .i64 0) := hblk.cell 1
    have c2 : W.cell? ⟨w.heap.size, 2, none⟩ = some (.int .i64 0) := hblk.cell 2
    exact bodyPost_ret (v := .tuple #[headV 0 0 0, .bool false]) (by simp [results, Tryz.results125, go_sem, c0, c1, c2]) rfl ⟨rfl, hbel⟩

set_option maxHeartbeats 2000000 in
set_option maxRecDepth 100000 in
theorem smake_no (s : Int) (zs : List Int) (A : Option Addr) (cap : Nat) (w : World) (h : ¬ ((1 ≤ s ∧ s < 997) ∧ leavesB zs = true)) (hI : IntsAt w w.heap.size A zs) (hmax : zs.length ≤ maxLen) :
    Calls Tryz.prog 60 #[.int .i64 s, .slice A zs.length cap] w fun e w' => e = .returned (.tuple #[headV 0 0 0, .bool false]) ∧ Below w.heap.size w w' := by
  have HI := Lib.hid hI
  have HM := Lib.hid hmax
  clear hI hmax
  by_cases hs : 1 ≤ s ∧ s < 997
  · have HV : Hid (leavesB zs = false) := by
      show _ = _
      rw [Bool.eq_false_iff]
      exact fun e => h ⟨hs, e⟩
    obtain ⟨hs0, hs1⟩ := hs
    clear h
    go_enter Tryz.func60, Tryz.ntmps60
    go_wp2_with fail
    refine (skey_yes _ _ hs0 hs1).mono ?_
    rintro e w' ⟨rfl, rfl⟩
    go_wp2_with fail
    refine (sdigs_any _ _ zs _ (HI.out.allocS _) HM.out).mono ?_
    rintro e w' ⟨rfl, rfl⟩
    rw [HV.out]
    go_wp2
    have hblk : Blk (w.alloc (.cells #[.int .i64 0, .int .i64 0, .int .i64 0] 52)) w.heap.size 52 #[.int .i64 0, .int .i64 0, .int .i64 0] :=
      Blk.new w 52 #[.int .i64 0, .int .i64 0, .int .i64 0]
    have hbel : Below w.heap.size w (w.alloc (.cells #[.int .i64 0, .int .i64 0, .int .i64 0] 52)) :=
      (Below.refl _ w).alloc (Nat.le_refl _) _
    obtain ⟨W, HW⟩ : ∃ W, Hid ((w.alloc (.cells #[.int .i64 0, .int .i64 0, .int .i64 0] 52)) = W) := ⟨_, rfl⟩
    rw [HW.out] at hblk hbel ⊢
    have c0 : W.cell? ⟨w.heap.size, 0, none⟩ = some (.int .i64 0) := hblk.cell 0
    have c1 : W.cell? ⟨w.heap.size, 1, none⟩ = some (.int .i64 0) := hblk.cell 1
    have c2 : W.cell? ⟨w.heap.size, 2, none⟩ = some (.int .i64 0) := hblk.cell 2
    exact bodyPost_ret (v := .tuple #[headV 0 0 0, .bool false]) (by simp [results, Tryz.results60, go_sem, c0, c1, c2]) rfl ⟨rfl, hbel⟩
  · have HS := Lib.hid hs
    clear h hs
    go_enter Tryz.func60, Tryz.ntmps60
    go_wp2_with fail
    refine (skey_no _ _ HS.out).mono ?_
    rintro e w' ⟨rfl, rfl⟩
    go_wp2
    have hblk : Blk (w.alloc (.cells #[.int .i64 0, .int .i64 0, .int .i64 0] 52)) w.heap.size 52 #[.int .i64 0, .int .i64 0, .int .i64 0] :=
      Blk.new w 52 #[.int .i64 0, .int .i64 0, .int .i64 0]
    have hbel : Below w.heap.size w (w.alloc (.cells #[.int .i64 0, .int .i64 0, .int .i64 0] 52)) :=
      (Below.refl _ w).alloc (Nat.le_refl _) _
    obtain ⟨W, HW⟩ : ∃ W, Hid ((w.alloc (.cells #[.int .i64 0, .int .i64 0, .int .i64 0] 52)) = W) := ⟨_, rfl⟩
    rw [HW.out] at hblk hbel ⊢
    have c0 : W.cell? ⟨w.heap.size, 0, none⟩ = some (.int .i64 0) := hblk.cell 0
    have c1 : W.cell? ⟨w.heap.size, 1, none⟩ = some (.int .i64 0) := hblk.cell 1
    have c2 : W.cell? ⟨w.heap.size, 2, none⟩ = some (.int .i64 0) := hblk.cell 2
    exact bodyPost_ret (v := .tuple #[headV 0 0 0, .bool false]) (by simp [results, Tryz.results60, go_sem, c0, c1, c2]) rfl ⟨rfl, hbel⟩

set_option maxHeartbeats 2000000 in
set_option maxRecDepth 100000 in
theorem smake_yes (s : Int) (zs : List Int) (b o cap : Nat) (w : World) (hs0 : 1 ≤ s) (hs1 : s < 997) (hv : leavesB zs = true) (hI : IntsAt w w.heap.size (some ⟨b, o, none⟩) zs) (hcap : zs.length ≤ cap) (hmax : cap ≤ maxLen) :
    Calls Tryz.prog 60 #[.int .i64 s, .slice (some ⟨b, o, none⟩) zs.length cap] w fun e w' => e = .returned (.tuple #[headV zs.length (digestZ zs) (signZ s (msgZ zs.length (digestZ zs))), .bool true]) ∧ Below w.heap.size w w' := by
  have HI := Lib.hid hI
  have HM := Lib.hid hmax
  have HC := Lib.hid hcap
  have HV := Lib.hid hv
  obtain ⟨h16, hd⟩ := leavesB_yes hv
  have HE : Hid (digestOr zs = digestZ zs) := by show _ = _; unfold digestOr; rw [hv]; rfl
  obtain ⟨t0, t1⟩ : 0 ≤ digestZ zs ∧ digestZ zs < 991 := foldZ_bd zs.length (coverZ zs 0) (by omega) (by omega)
  obtain ⟨t, HT⟩ : ∃ t, Hid (digestZ zs = t) := ⟨_, rfl⟩
  rw [HT.out] at t0 t1 ⊢
  clear hI hmax hcap hv hd
  obtain ⟨m0, m1⟩ := msgZ_bd zs.length t
  go_enter Tryz.func60, Tryz.ntmps60
  go_wp2_with fail
  refine (skey_yes _ _ hs0 hs1).mono ?_
  rintro e w' ⟨rfl, rfl⟩
  go_wp2_with fail
  refine (sdigs_any _ _ zs _ (HI.out.allocS _) (Nat.le_trans HC.out HM.out)).mono ?_
  rintro e w' ⟨rfl, rfl⟩
  rw [HV.out]
  go_wp2_with fail
  refine (sdigest_any zs b o cap _ (HI.out.allocS _) HC.out HM.out).mono ?_
  rintro e w1 ⟨rfl, hb1⟩
  rw [HE.out, HT.out]
  obtain ⟨n, HN⟩ : ∃ n, Hid (zs.length = n) := ⟨_, rfl⟩
  rw [HN.out] at h16 m0 m1 ⊢
  obtain ⟨bc1, bf1⟩ := bcell hb1
  have hz1 : w.heap.size < w1.heap.size := by have := hb1.size; simp at this; omega
  have HB1 := Lib.hid hb1
  clear hb1
  obtain ⟨q0, q1⟩ := mul_bd s (msgZ n t) (by omega) (by omega) (by omega) (by omega)
  go_wp2_with fail
  refine (smsg_any _ _ _ (by omega) (by omega) t0 t1).mono ?_
  rintro e w' ⟨rfl, rfl⟩
  go_wp2
  have hblk : Blk ((((w1.setCell ⟨w.heap.size, 0, none⟩ (.int .i64 n)).setCell ⟨w.heap.size, 1, none⟩ (.int .i64 t)).setCell ⟨w.heap.size, 2, none⟩ (.int .i64 (s * msgZ n t % 997)))) w.heap.size 52 #[.int .i64 n, .int .i64 t, .int .i64 (s * msgZ n t % 997)] := by
    have h1 := (Blk.new w 52 #[.int .i64 0, .int .i64 0, .int .i64 0]).below HB1.out (by simp)
    exact ((h1.setOwn 0 (.int .i64 n)).setOwn 1 (.int .i64 t)).setOwn 2 (.int .i64 (s * msgZ n t % 997))
  have hbel : Below w.heap.size w ((((w1.setCell ⟨w.heap.size, 0, none⟩ (.int .i64 n)).setCell ⟨w.heap.size, 1, none⟩ (.int .i64 t)).setCell ⟨w.heap.size, 2, none⟩ (.int .i64 (s * msgZ n t % 997)))) := by
    have h1 : Below w.heap.size w w1 := ((Below.refl _ w).alloc (Nat.le_refl _) _).trans (HB1.out.mono (by simp))
    exact ((h1.setCell (p := ⟨w.heap.size, 0, none⟩) (Nat.le_refl _) _).setCell (p := ⟨w.heap.size, 1, none⟩) (Nat.le_refl _) _).setCell (p := ⟨w.heap.size, 2, none⟩) (Nat.le_refl _) _
  obtain ⟨W, HW⟩ : ∃ W, Hid (((((w1.setCell ⟨w.heap.size, 0, none⟩ (.int .i64 n)).setCell ⟨w.heap.size, 1, none⟩ (.int .i64 t)).setCell ⟨w.heap.size, 2, none⟩ (.int .i64 (s * msgZ n t % 997)))) = W) := ⟨_, rfl⟩
  rw [HW.out] at hblk hbel ⊢
  have c0 : W.cell? ⟨w.heap.size, 0, none⟩ = some (.int .i64 n) := hblk.cell 0
  have c1 : W.cell? ⟨w.heap.size, 1, none⟩ = some (.int .i64 t) := hblk.cell 1
  have c2 : W.cell? ⟨w.heap.size, 2, none⟩ = some (.int .i64 (s * msgZ n t % 997)) := hblk.cell 2
  exact bodyPost_ret (v := .tuple #[headV n t (s * msgZ n t % 997), .bool true]) (by simp [results, Tryz.results60, go_sem, c0, c1, c2]) rfl ⟨by rw [HN.out]; rfl, hbel⟩

end Go.Proofs.YtkmebilhbjcfpaaGreat

namespace Go.Proofs.YtkmebilhbjcfpaaGreat
open Go.RowKit
set_option linter.unusedVariables false

def madeOk (s : Int) (zs : List Int) : Bool := keyB s && leavesB zs
def madeL (s : Int) (zs : List Int) : Int := if madeOk s zs = true then zs.length else 0
def madeD (s : Int) (zs : List Int) : Int := if madeOk s zs = true then digestZ zs else 0
def madeS (s : Int) (zs : List Int) : Int := if madeOk s zs = true then signZ s (msgZ zs.length (digestZ zs)) else 0
theorem madeOk_iff (s : Int) (zs : List Int) : madeOk s zs = true ↔ (1 ≤ s ∧ s < 997) ∧ leavesB zs = true := by unfold madeOk; rw [Bool.and_eq_true, keyB_iff]
theorem made_yes {s : Int} {zs : List Int} (h : madeOk s zs = true) : madeL s zs = zs.length ∧ madeD s zs = digestZ zs ∧ madeS s zs = signZ s (msgZ zs.length (digestZ zs)) := by
  unfold madeL madeD madeS; rw [if_pos h, if_pos h, if_pos h]; exact ⟨rfl, rfl, rfl⟩
theorem made_no {s : Int} {zs : List Int} (h : ¬ madeOk s zs = true) : madeL s zs = 0 ∧ madeD s zs = 0 ∧ madeS s zs = 0 := by
  unfold madeL madeD madeS; rw [if_neg h, if_neg h, if_neg h]; exact ⟨rfl, rfl, rfl⟩
theorem leaves_digest {zs : List Int} (h : leavesB zs = true) : zs.length ≤ 16 ∧ Digs zs ∧ 0 ≤ digestZ zs ∧ digestZ zs < 991 := by
  obtain ⟨h16, hd⟩ := leavesB_yes h
  obtain ⟨a, b⟩ := foldZ_bd zs.length (coverZ zs 0) (by omega) (by omega)
  exact ⟨h16, hd, a, b⟩
/-- Where numbers of a head may lie. -/
theorem made_bd (s : Int) (zs : List Int) : (0 ≤ madeL s zs ∧ madeL s zs ≤ 16) ∧ (0 ≤ madeD s zs ∧ madeD s zs < 991) ∧ (0 ≤ madeS s zs ∧ madeS s zs < 997) := by
  by_cases h : madeOk s zs = true
  · obtain ⟨e1, e2, e3⟩ := made_yes h
    obtain ⟨hs, hv⟩ := (madeOk_iff _ _).1 h
    obtain ⟨h16, _, h0, h1⟩ := leaves_digest hv
    rw [e1, e2, e3]
    have := signZ_bd s zs.length (digestZ zs) hs
    exact ⟨by omega, by omega, by omega⟩
  · obtain ⟨e1, e2, e3⟩ := made_no h
    rw [e1, e2, e3]; omega

theorem make_any (s : Int) (zs : List Int) (b o cap : Nat) (w : World) (hI : IntsAt w w.heap.size (some ⟨b, o, none⟩) zs) (hcap : zs.length ≤ cap) (hmax : cap ≤ maxLen) :
    Calls Tryz.prog 125 #[.int .i64 s, .slice (some ⟨b, o, none⟩) zs.length cap] w fun e w' => e = .returned (.tuple #[headV (madeL s zs) (madeD s zs) (madeS s zs), .bool (madeOk s zs)]) ∧ Below w.heap.size w w' := by
  by_cases h : madeOk s zs = true
  · obtain ⟨e1, e2, e3⟩ := made_yes h
    obtain ⟨hs, hv⟩ := (madeOk_iff _ _).1 h
    rw [e1, e2, e3, h]
    exact make_yes s zs b o cap w hs.1 hs.2 hv hI hcap hmax
  · obtain ⟨e1, e2, e3⟩ := made_no h
    rw [e1, e2, e3, show madeOk s zs = false from Bool.eq_false_iff.2 h]
    exact make_no s zs _ cap w (fun k => h ((madeOk_iff _ _).2 k)) hI (Nat.le_trans hcap hmax)

theorem smake_any (s : Int) (zs : List Int) (b o cap : Nat) (w : World) (hI : IntsAt w w.heap.size (some ⟨b, o, none⟩) zs) (hcap : zs.length ≤ cap) (hmax : cap ≤ maxLen) :
    Calls Tryz.prog 60 #[.int .i64 s, .slice (some ⟨b, o, none⟩) zs.length cap] w fun e w' => e = .returned (.tuple #[headV (madeL s zs) (madeD s zs) (madeS s zs), .bool (madeOk s zs)]) ∧ Below w.heap.size w w' := by
  by_cases h : madeOk s zs = true
  · obtain ⟨e1, e2, e3⟩ := made_yes h
    obtain ⟨hs, hv⟩ := (madeOk_iff _ _).1 h
    rw [e1, e2, e3, h]
    exact smake_yes s zs b o cap w hs.1 hs.2 hv hI hcap hmax
  · obtain ⟨e1, e2, e3⟩ := made_no h
    rw [e1, e2, e3, show madeOk s zs = false from Bool.eq_false_iff.2 h]
    exact smake_no s zs _ cap w (fun k => h ((madeOk_iff _ _).2 k)) hI (Nat.le_trans hcap hmax)

end Go.Proofs.YtkmebilhbjcfpaaGreat

namespace Go.Proofs.YtkmebilhbjcfpaaGreat
open Go.RowKit
set_option linter.unusedVariables false

set_option maxHeartbeats 2000000 in
set_option maxRecDepth 100000 in
theorem toHead_any (l d s : Int) (w : World) :
    Calls Tryz.prog 112 #[.agg #[.int .i64 l, .int .i64 d, .int .i64 s]] w fun e w' => e = .returned (headV l d s) ∧ Below w.heap.size w w' := by
  go_enter Tryz.func112, Tryz.ntmps112
  go_wp2
  have hblk : Blk (((w.alloc (.cells #[.int .i64 l, .int .i64 d, .int .i64 s] 83)).alloc (.cells #[.int .i64 l, .int .i64 d, .int .i64 s] 52)).alloc (.cells #[.int .i64 l, .int .i64 d, .int .i64 s] 52)) (w.heap.size + 1) 52 #[.int .i64 l, .int .i64 d, .int .i64 s] := by
    have h := (Blk.new (w.alloc (.cells #[.int .i64 l, .int .i64 d, .int .i64 s] 83)) 52 #[.int .i64 l, .int .i64 d, .int .i64 s]).alloc (.cells #[.int .i64 l, .int .i64 d, .int .i64 s] 52)
    rw [World.size_alloc] at h
    exact h
  have hbel : Below w.heap.size w (((w.alloc (.cells #[.int .i64 l, .int .i64 d, .int .i64 s] 83)).alloc (.cells #[.int .i64 l, .int .i64 d, .int .i64 s] 52)).alloc (.cells #[.int .i64 l, .int .i64 d, .int .i64 s] 52)) :=
    (((Below.refl _ w).alloc (Nat.le_refl _) _).alloc (by simp) _).alloc (by simp; omega) _
  obtain ⟨W, HW⟩ : ∃ W, Hid (((w.alloc (.cells #[.int .i64 l, .int .i64 d, .int .i64 s] 83)).alloc (.cells #[.int .i64 l, .int .i64 d, .int .i64 s] 52)).alloc (.cells #[.int .i64 l, .int .i64 d, .int .i64 s] 52) = W) := ⟨_, rfl⟩
  rw [HW.out] at hblk hbel ⊢
  have c0 : W.cell? ⟨w.heap.size + 1, 0, none⟩ = some (.int .i64 l) := hblk.cell 0
  have c1 : W.cell? ⟨w.heap.size + 1, 1, none⟩ = some (.int .i64 d) := hblk.cell 1
  have c2 : W.cell? ⟨w.heap.size + 1, 2, none⟩ = some (.int .i64 s) := hblk.cell 2
  exact bodyPost_ret (v := headV l d s) (by simp [results, Tryz.results112, go_sem, c0, c1, c2]) rfl ⟨rfl, hbel⟩

set_option maxHeartbeats 2000000 in
theorem eqHead_same (l d s : Int) (w : World) :
    Calls Tryz.prog 134 #[headV l d s, headV l d s] w fun e w' => e = .returned (.bool true) ∧ Below w.heap.size w w' := by
  go_enter Tryz.func134, Tryz.ntmps134
  go_wp2
  go_ret
  exact ⟨rfl, ((Below.refl _ _).alloc (Nat.le_refl _) _).alloc (by simp) _⟩

end Go.Proofs.YtkmebilhbjcfpaaGreat
