/- Contracts of HeadMake and of its model: the head of leaves. Conditions: the leaves lie in memory. -/
import Derived.Test.YtgpmodidpdjhkaaCheck
import Derived.Test.YtgpmodidpdjhkaaPeaks
import Derived.Test.YtgpmodidpdjhkaaPeakLaws
namespace Go.Proofs.Ytgpmodidpdjhkaa
open Go.RowKit
set_option linter.unusedVariables false

theorem Blk.setOther {w : World} {g : Nat} {t : TypeId} {cs : Array Value} (h : Blk w g t cs) {p : Addr} (hne : p.block ≠ g) (v : Value) : Blk (w.setCell p v) g t cs := (Below.heap_setCell w p v g (fun e => hne e.symm)).trans h
theorem Blk.setOwn {w : World} {g : Nat} {t : TypeId} {cs : Array Value} (h : Blk w g t cs) (i : Nat) (v : Value) : Blk (w.setCell ⟨g, i, none⟩ v) g t (cs.setIfInBounds i v) := by
  unfold Blk at h ⊢
  simp only [World.setCell, Array.getElem?_modify, h]
  simp

/-- A head as a value. -/
abbrev headV (l d s : Int) : Value := .agg #[.int .i64 l, .int .i64 d, .int .i64 s]





set_option maxHeartbeats 2000000 in
set_option maxRecDepth 100000 in
theorem smake_no (s : Int) (zs : List Int) (A : Option Addr) (cap : Nat) (w : World) (h : ¬ ((1 ≤ s ∧ s < 997) ∧ leavesB zs = true)) (hI : IntsAt w w.heap.size A zs) (hmax : zs.length ≤ maxLen) :
    Calls Try.prog 90 #[.int .i64 s, .slice A zs.length cap] w fun e w' => e = .returned (.tuple #[headV 0 0 0, .bool false]) ∧ Below w.heap.size w w' := by
  have HI := Lib.hid hI
  have HM := Lib.hid hmax
  clear hI hmax
  by_cases hs : 1 ≤ s ∧ s < 997
  · have HV : Hid (leavesB zs = false) := by
      show _ = _
      rw [Bool.eq_false_iff]
      exact fun e => h ⟨hs, e⟩
    obtain ⟨hs0, hs1⟩ := hs
    clear h
    go_enter Try.func90, Try.ntmps90
    go_wp2_with fail
    refine (skey_yes _ _ hs0 hs1).mono ?_
    rintro e w' ⟨rfl, rfl⟩
    go_wp2_with fail
    refine (sdigs_any _ _ zs _ (HI.out.allocS _) HM.out).mono ?_
    rintro e w' ⟨rfl, rfl⟩
    rw [HV.out]
    go_wp2
    have hblk : Blk (w.alloc (.cells #[.int .i64 0, .int .i64 0, .int .i64 0] 25)) w.heap.size 25 #[.int .i64 0, .int .i64 0, .int .i64 0] :=
      Blk.new w 25 #[.int .i64 0, .int .i64 0, .int .i64 0]
    have hbel : Below w.heap.size w (w.alloc (.cells #[.int .i64 0, .int .i64 0, .int .i64 0] 25)) :=
      (Below.refl _ w).alloc (Nat.le_refl _) _
    obtain ⟨W, HW⟩ : ∃ W, Hid ((w.alloc (.cells #[.int .i64 0, .int .i64 0, .int .i64 0] 25)) = W) := ⟨_, rfl⟩
    rw [HW.out] at hblk hbel ⊢
    have c0 : W.cell? ⟨w.heap.size, 0, none⟩ = some (.int .i64 0) := hblk.cell 0
    have c1 : W.cell? ⟨w.heap.size, 1, none⟩ = some (.int .i64 0) := hblk.cell 1
    have c2 : W.cell? ⟨w.heap.size, 2, none⟩ = some (.int .i64 0) := hblk.cell 2
    exact bodyPost_ret (v := .tuple #[headV 0 0 0, .bool false]) (by simp [results, Try.results90, go_sem, c0, c1, c2]) rfl ⟨rfl, hbel⟩
  · have HS := Lib.hid hs
    clear h hs
    go_enter Try.func90, Try.ntmps90
    go_wp2_with fail
    refine (skey_no _ _ HS.out).mono ?_
    rintro e w' ⟨rfl, rfl⟩
    go_wp2
    have hblk : Blk (w.alloc (.cells #[.int .i64 0, .int .i64 0, .int .i64 0] 25)) w.heap.size 25 #[.int .i64 0, .int .i64 0, .int .i64 0] :=
      Blk.new w 25 #[.int .i64 0, .int .i64 0, .int .i64 0]
    have hbel : Below w.heap.size w (w.alloc (.cells #[.int .i64 0, .int .i64 0, .int .i64 0] 25)) :=
      (Below.refl _ w).alloc (Nat.le_refl _) _
    obtain ⟨W, HW⟩ : ∃ W, Hid ((w.alloc (.cells #[.int .i64 0, .int .i64 0, .int .i64 0] 25)) = W) := ⟨_, rfl⟩
    rw [HW.out] at hblk hbel ⊢
    have c0 : W.cell? ⟨w.heap.size, 0, none⟩ = some (.int .i64 0) := hblk.cell 0
    have c1 : W.cell? ⟨w.heap.size, 1, none⟩ = some (.int .i64 0) := hblk.cell 1
    have c2 : W.cell? ⟨w.heap.size, 2, none⟩ = some (.int .i64 0) := hblk.cell 2
    exact bodyPost_ret (v := .tuple #[headV 0 0 0, .bool false]) (by simp [results, Try.results90, go_sem, c0, c1, c2]) rfl ⟨rfl, hbel⟩

set_option maxHeartbeats 2000000 in
set_option maxRecDepth 100000 in
theorem smake_yes (s : Int) (zs : List Int) (b o cap : Nat) (w : World) (hs0 : 1 ≤ s) (hs1 : s < 997) (hv : leavesB zs = true) (hI : IntsAt w w.heap.size (some ⟨b, o, none⟩) zs) (hcap : zs.length ≤ cap) (hmax : cap ≤ maxLen) :
    Calls Try.prog 90 #[.int .i64 s, .slice (some ⟨b, o, none⟩) zs.length cap] w fun e w' => e = .returned (.tuple #[headV zs.length (digestZ zs) (signZ s (msgZ zs.length (digestZ zs))), .bool true]) ∧ Below w.heap.size w w' := by
  have HI := Lib.hid hI
  have HM := Lib.hid hmax
  have HC := Lib.hid hcap
  have HV := Lib.hid hv
  obtain ⟨h16, hd⟩ := leavesB_yes hv
  have HE : Hid (digestOr zs = digestZ zs) := by show _ = _; unfold digestOr; rw [hv]; rfl
  obtain ⟨t0, t1⟩ : 0 ≤ digestZ zs ∧ digestZ zs < 991 := foldZ_bd zs.length (coverZ zs 0) (by omega) (by omega)
  obtain ⟨t, HT⟩ : ∃ t, Hid (digestZ zs = t) := ⟨_, rfl⟩
  rw [HT.out] at t0 t1 ⊢
  clear hI hmax hcap hv hd
  obtain ⟨m0, m1⟩ := msgZ_bd zs.length t
  go_enter Try.func90, Try.ntmps90
  go_wp2_with fail
  refine (skey_yes _ _ hs0 hs1).mono ?_
  rintro e w' ⟨rfl, rfl⟩
  go_wp2_with fail
  refine (sdigs_any _ _ zs _ (HI.out.allocS _) (Nat.le_trans HC.out HM.out)).mono ?_
  rintro e w' ⟨rfl, rfl⟩
  rw [HV.out]
  go_wp2_with fail
  refine (sdigest_any zs b o cap _ (HI.out.allocS _) HC.out HM.out).mono ?_
  rintro e w1 ⟨rfl, hb1⟩
  rw [HE.out, HT.out]
  obtain ⟨n, HN⟩ : ∃ n, Hid (zs.length = n) := ⟨_, rfl⟩
  rw [HN.out] at h16 m0 m1 ⊢
  obtain ⟨bc1, bf1⟩ := bcell hb1
  have hz1 : w.heap.size < w1.heap.size := by have := hb1.size; simp at this; omega
  have HB1 := Lib.hid hb1
  clear hb1
  obtain ⟨q0, q1⟩ := mul_bd s (msgZ n t) (by omega) (by omega) (by omega) (by omega)
  go_wp2_with fail
  refine (smsg_any _ _ _ (by omega) (by omega) t0 t1).mono ?_
  rintro e w' ⟨rfl, rfl⟩
  go_wp2
  have hblk : Blk ((((w1.setCell ⟨w.heap.size, 0, none⟩ (.int .i64 n)).setCell ⟨w.heap.size, 1, none⟩ (.int .i64 t)).setCell ⟨w.heap.size, 2, none⟩ (.int .i64 (s * msgZ n t % 997)))) w.heap.size 25 #[.int .i64 n, .int .i64 t, .int .i64 (s * msgZ n t % 997)] := by
    have h1 := (Blk.new w 25 #[.int .i64 0, .int .i64 0, .int .i64 0]).below HB1.out (by simp)
    exact ((h1.setOwn 0 (.int .i64 n)).setOwn 1 (.int .i64 t)).setOwn 2 (.int .i64 (s * msgZ n t % 997))
  have hbel : Below w.heap.size w ((((w1.setCell ⟨w.heap.size, 0, none⟩ (.int .i64 n)).setCell ⟨w.heap.size, 1, none⟩ (.int .i64 t)).setCell ⟨w.heap.size, 2, none⟩ (.int .i64 (s * msgZ n t % 997)))) := by
    have h1 : Below w.heap.size w w1 := ((Below.refl _ w).alloc (Nat.le_refl _) _).trans (HB1.out.mono (by simp))
    exact ((h1.setCell (p := ⟨w.heap.size, 0, none⟩) (Nat.le_refl _) _).setCell (p := ⟨w.heap.size, 1, none⟩) (Nat.le_refl _) _).setCell (p := ⟨w.heap.size, 2, none⟩) (Nat.le_refl _) _
  obtain ⟨W, HW⟩ : ∃ W, Hid (((((w1.setCell ⟨w.heap.size, 0, none⟩ (.int .i64 n)).setCell ⟨w.heap.size, 1, none⟩ (.int .i64 t)).setCell ⟨w.heap.size, 2, none⟩ (.int .i64 (s * msgZ n t % 997)))) = W) := ⟨_, rfl⟩
  rw [HW.out] at hblk hbel ⊢
  have c0 : W.cell? ⟨w.heap.size, 0, none⟩ = some (.int .i64 n) := hblk.cell 0
  have c1 : W.cell? ⟨w.heap.size, 1, none⟩ = some (.int .i64 t) := hblk.cell 1
  have c2 : W.cell? ⟨w.heap.size, 2, none⟩ = some (.int .i64 (s * msgZ n t % 997)) := hblk.cell 2
  exact bodyPost_ret (v := .tuple #[headV n t (s * msgZ n t % 997), .bool true]) (by simp [results, Try.results90, go_sem, c0, c1, c2]) rfl ⟨by rw [HN.out]; rfl, hbel⟩

end Go.Proofs.Ytgpmodidpdjhkaa
