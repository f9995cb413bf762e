/- Contracts of the exact laws' helpers over slices of requests: the copy, the size, the comparison of equal ones, the marks and what still holds them. Conditions: the requests lie in memory; marked are at most 2^20. -/
import Derived.Test.YtkmebilhbjcfpaaExactRow
import Derived.Test.YtkmebilhbjcfpaaAsks
import Derived.Deep.DeepCutAuto
namespace Go.Proofs.Ytkmebilhbjcfpaa
open Go.RowKit
set_option linter.unusedVariables false

/-- A request is written. -/
theorem ask_store {w : World} {base b cap : Nat} {xs : List AD} (h : OwnRow AK w base (some ⟨b, 0, none⟩) cap xs) (i : Nat) (hi : i < xs.length) (a : AD) :
    OwnRow AK ((w.setCell ⟨b, i * 2, none⟩ (.int .i64 a.p)).setCell ⟨b, i * 2 + 1, none⟩ (.int .i64 a.b)) base (some ⟨b, 0, none⟩) cap (xs.set i a) ∧ w.grownBy ((w.setCell ⟨b, i * 2, none⟩ (.int .i64 a.p)).setCell ⟨b, i * 2 + 1, none⟩ (.int .i64 a.b)) (some b) := by
  have h1 := h.stored i (ath xs i) ⟨a.p, (ath xs i).b⟩ (ath_get xs i hi) 0 (by decide) (.int .i64 a.p) rfl
  have h2 := h1.1.stored i ⟨a.p, (ath xs i).b⟩ a (by rw [List.getElem?_set_self hi]) 1 (by decide) (.int .i64 a.b) rfl
  rw [List.set_set] at h2
  exact ⟨h2.1, World.grownBy.trans h1.2 h2.2⟩
theorem ask_p {w : World} {base b cap : Nat} {xs : List AD} (h : OwnRow AK w base (some ⟨b, 0, none⟩) cap xs) (i : Nat) (hi : i < xs.length) (v : Int) :
    OwnRow AK (w.setCell ⟨b, i * 2, none⟩ (.int .i64 v)) base (some ⟨b, 0, none⟩) cap (xs.set i ⟨v, (ath xs i).b⟩) ∧ w.grownBy (w.setCell ⟨b, i * 2, none⟩ (.int .i64 v)) (some b) :=
  h.stored i (ath xs i) ⟨v, (ath xs i).b⟩ (ath_get xs i hi) 0 (by decide) (.int .i64 v) rfl
theorem ask_b {w : World} {base b cap : Nat} {xs : List AD} (h : OwnRow AK w base (some ⟨b, 0, none⟩) cap xs) (i : Nat) (hi : i < xs.length) (v : Int) :
    OwnRow AK (w.setCell ⟨b, i * 2 + 1, none⟩ (.int .i64 v)) base (some ⟨b, 0, none⟩) cap (xs.set i ⟨(ath xs i).p, v⟩) ∧ w.grownBy (w.setCell ⟨b, i * 2 + 1, none⟩ (.int .i64 v)) (some b) :=
  h.stored i (ath xs i) ⟨(ath xs i).p, v⟩ (ath_get xs i hi) 1 (by decide) (.int .i64 v) rfl
theorem ask_cellF {w : World} {base b cap : Nat} {xs : List AD} (h : OwnRow AK w base (some ⟨b, 0, none⟩) cap xs) (i : Nat) (hi : i < xs.length) :
    (w.cell? ⟨b, i * 2, none⟩ = some (.int .i64 (ath xs i).p) ∧ w.frozen? ⟨b, i * 2, none⟩ = false) ∧ (w.cell? ⟨b, i * 2 + 1, none⟩ = some (.int .i64 (ath xs i).b) ∧ w.frozen? ⟨b, i * 2 + 1, none⟩ = false) :=
  ⟨h.cellF i (ath xs i) (ath_get xs i hi) 0 _ rfl, h.cellF i (ath xs i) (ath_get xs i hi) 1 _ rfl⟩
def noA (n : Nat) : List AD := List.replicate n ⟨0, 0⟩
theorem copyA_step (xs : List AD) (k n : Nat) (hn : xs.length = n) (hk : k < n) : (xs.take k ++ noA (n - k)).set k (ath xs k) = xs.take (k + 1) ++ noA (n - (k + 1)) := by
  have hl : (xs.take k).length = k := by rw [List.length_take]; omega
  have e : n - k = (n - (k + 1)) + 1 := by omega
  have hz : noA (n - k) = ⟨0, 0⟩ :: noA (n - (k + 1)) := by rw [e]; rfl
  rw [hz, take_ath xs k (by omega), List.set_append_right _ _ (by omega), hl, Nat.sub_self, List.append_assoc]
  rfl
theorem copyA_len (xs : List AD) (k n : Nat) (hn : xs.length = n) (hk : k ≤ n) : (xs.take k ++ noA (n - k)).length = n := by
  rw [List.length_append, List.length_take]
  unfold noA
  rw [List.length_replicate]; omega
theorem ask_info_parts : ∃ i z, Try.prog.info? AK.e = some i ∧ i.zero = some (.agg #[.int .i64 0, .int .i64 0]) ∧ i.size = AK.k ∧ i.bytes = AK.by_ ∧ z = () := by
  obtain ⟨i0, hi0, hz0, hz1, hz2⟩ := info_parts ask_info
  exact ⟨i0, (), hi0, hz0, hz1, hz2, rfl⟩
theorem ath_set (xs : List AD) (k : Nat) (x : AD) (hk : k < xs.length) : ath (xs.set k x) k = x := by
  unfold ath; rw [List.getD_eq_getElem?_getD, List.getElem?_set_self hk]; rfl
/-- The marks of the first n requests. -/
def amarks (n : Nat) : List AD := (List.range n).map fun i => ⟨((1 + 2 * i : Nat) : Int), ((2 + 2 * i : Nat) : Int)⟩
theorem amarks_length (n : Nat) : (amarks n).length = n := by unfold amarks; rw [List.length_map, List.length_range]
theorem amarks_ath (n k : Nat) (hk : k < n) : ath (amarks n) k = ⟨((1 + 2 * k : Nat) : Int), ((2 + 2 * k : Nat) : Int)⟩ := by
  have h := ath_get (amarks n) k (by rw [amarks_length]; exact hk)
  unfold amarks at h
  rw [List.getElem?_map, List.getElem?_range hk] at h
  injection h with h
  unfold amarks
  exact h.symm
theorem amarks_succ (n : Nat) : amarks (n + 1) = amarks n ++ [⟨((1 + 2 * n : Nat) : Int), ((2 + 2 * n : Nat) : Int)⟩] := by
  unfold amarks; rw [List.range_succ, List.map_append]; rfl
theorem amarks_step (xs : List AD) (k : Nat) (hk : k < xs.length) (x y : AD) : ((amarks k ++ xs.drop k).set k x).set k ⟨((1 + 2 * k : Nat) : Int), ((2 + 2 * k : Nat) : Int)⟩ = amarks (k + 1) ++ xs.drop (k + 1) := by
  rw [List.set_set, amarks_succ, List.set_append_right _ _ (by rw [amarks_length]; omega), amarks_length, Nat.sub_self, drop_ath xs k hk, List.append_assoc]
  rfl
theorem amarks_len (xs : List AD) (k n : Nat) (hn : xs.length = n) (hk : k ≤ n) : (amarks k ++ xs.drop k).length = n := by
  rw [List.length_append, amarks_length, List.length_drop]; omega



/-- A copy of requests in memory of the call's own. -/
def CopiedA (w : World) (xs : List AD) (e : Ending) (w' : World) : Prop :=
  e = .returned (.slice (some ⟨w.heap.size, 0, none⟩) xs.length xs.length) ∧ OwnRow AK w' w.heap.size (some ⟨w.heap.size, 0, none⟩) xs.length xs ∧ Below w.heap.size w w'









set_option maxHeartbeats 4000000 in
set_option maxRecDepth 100000 in
theorem eqA_any (a : AD) (w : World) :
    Calls Try.prog 93 #[askV a, askV a] w fun e w' => e = .returned (.bool true) ∧ Below w.heap.size w w' := by
  obtain ⟨ap, ab⟩ := a
  obtain ⟨W, HW⟩ : ∃ Q0, Hid ((w.alloc (.cells #[.int .i64 ap, .int .i64 ab] 77)).alloc (.cells #[.int .i64 ap, .int .i64 ab] 77) = Q0) := ⟨_, rfl⟩
  have KA : Hid (Blk W w.heap.size 77 #[.int .i64 ap, .int .i64 ab]) := by rw [← HW.out]; exact (Blk.new w _ _).alloc _
  have KB : Hid (Blk W (w.heap.size + 1) 77 #[.int .i64 ap, .int .i64 ab]) := by
    rw [← HW.out]
    have h := Blk.new (w.alloc (.cells #[.int .i64 ap, .int .i64 ab] 77)) 77 #[.int .i64 ap, .int .i64 ab]
    rw [World.size_alloc] at h
    exact h
  have HB : Hid (Below w.heap.size w W) := by rw [← HW.out]; exact ((Below.refl _ w).alloc (Nat.le_refl _) _).alloc (by simp) _
  obtain ⟨a0, a1⟩ := ask2 KA.out
  obtain ⟨b0, b1⟩ := ask2 KB.out
  go_enter Try.func93, Try.ntmps93
  go_upto_region 1 with fail
  rw [HW.out]
  go_wp2
  go_ret
  exact ⟨rfl, HB.out⟩

theorem two_cells {w w' : World} {b o : Nat} {u v : Value} (h : w.cell? ⟨b, o, none⟩ = some u ∧ w.cell? ⟨b, o + 1, none⟩ = some v) (hb : Below w.heap.size w w') : w'.cell? ⟨b, o, none⟩ = some u ∧ w'.cell? ⟨b, o + 1, none⟩ = some v :=
  ⟨(hb.cell (p := ⟨b, o, none⟩) (World.block_lt_of_cell? w _ h.1)).trans h.1, (hb.cell (p := ⟨b, o + 1, none⟩) (World.block_lt_of_cell? w _ h.2)).trans h.2⟩

set_option maxHeartbeats 4000000 in
set_option maxRecDepth 100000 in
theorem eqAs_any (A : Option Addr) (c : Nat) (A1 : Option Addr) (c1 : Nat) (xs : List AD) (w : World) (hJ : RowAt AK w w.heap.size A xs) (hJ1 : RowAt AK w w.heap.size A1 xs) (hm : xs.length ≤ maxLen) {n : Nat} (hn : xs.length = n) :
    Calls Try.prog 63 #[.slice A n c, .slice A1 n c1] w fun e w' => e = .returned (.bool true) ∧ Below w.heap.size w w' := by
  unfold maxLen at hm
  rw [hn] at hm
  have HN := Lib.hid hn
  have HJ := Lib.hid hJ
  have HJ1 := Lib.hid hJ1
  clear hJ hJ1 hn
  go_enter Try.func63, Try.ntmps63
  go_wp2
  go_loopw [5] (fun i w' => ∃ k : Nat, k ≤ n ∧ i = .int .i64 k ∧ Hid (Below w.heap.size w w')) (fun i _ => n - (intOf i).toNat)
  case atStart => exact ⟨0, Nat.zero_le _, rfl, Below.refl _ _⟩
  case round =>
    obtain ⟨k, hk, rfl, HB⟩ := hrel
    by_cases hlt : k < n
    · have hkz : k < xs.length := by rw [HN.out]; exact hlt
      have ja := HJ.out.belowS HB.out
      have jb := HJ1.out.belowS HB.out
      obtain ⟨b, o, rfl⟩ := ja.some_ (by omega)
      obtain ⟨b', o', rfl⟩ := jb.some_ (by omega)
      have h1 := ask_cells ja k hkz
      have h2 := ask_cells jb k hkz
      obtain ⟨ap, HRI⟩ : ∃ x, Hid ((ath xs k).p = x) := ⟨_, rfl⟩
      obtain ⟨ab, HRT⟩ : ∃ x, Hid ((ath xs k).b = x) := ⟨_, rfl⟩
      rw [HRI.out, HRT.out] at h1 h2
      have H1 := Lib.hid h1
      have H2 := Lib.hid h2
      have hk0 : (0 : Int) ≤ (k : Int) := by omega
      have hki : (k : Int) < (n : Int) := by omega
      clear hkz ja jb h1 h2
      go_wp2_with fail
      refine wp_region_held_drew (S := (fun w' => (w'.cell? ⟨b, o + k * 2, none⟩ = some (.int .i64 ap) ∧ w'.cell? ⟨b, o + k * 2 + 1, none⟩ = some (.int .i64 ab)) ∧ (w'.cell? ⟨b', o' + k * 2, none⟩ = some (.int .i64 ap) ∧ w'.cell? ⟨b', o' + k * 2 + 1, none⟩ = some (.int .i64 ab)))) (by kernel_rfl) (⟨H1.out, H2.out⟩) (fun hHeld => ?_)
      refine wpAnyH_take (i := 0) (v := ?zv51001) rfl (by kernel_rfl) (by kernel_rfl) (by kernel_rfl) (fun _ _ _ h => h) (Or.inl ⟨by kernel_rfl, ?zy51001⟩) (by assumption) ?zr51001
      case zy51001 => (intro w hSw; (try dsimp only at hSw); go_simp; try with_reducible rfl)
      change wpAnyH _ _ _ _ _ _ _ (Act.put _ (some 17) _) _
      simp only [Act.put, List.setIfInBounds_toArray, List.set_cons_zero, List.set_cons_succ]
      refine wpAnyH_take (i := 1) (v := ?zv51002) rfl (by kernel_rfl) (by kernel_rfl) (by kernel_rfl) (fun _ _ _ h => h) (Or.inl ⟨by kernel_rfl, ?zy51002⟩) (by assumption) ?zr51002
      case zy51002 => (intro w hSw; (try dsimp only at hSw); go_simp; try with_reducible rfl)
      change wpAnyH _ _ _ _ _ _ _ (Act.put _ (some 18) _) _
      simp only [Act.put, List.setIfInBounds_toArray, List.set_cons_zero, List.set_cons_succ]
      refine wpAnyH_take (i := 2) (v := ?zv51003) rfl (by kernel_rfl) (by kernel_rfl) (by kernel_rfl) (fun _ _ _ h => h) (Or.inl ⟨by kernel_rfl, ?zy51003⟩) (by assumption) ?zr51003
      case zy51003 => (intro w hSw; (try dsimp only at hSw); go_simp; try with_reducible rfl)
      change wpAnyH _ _ _ _ _ _ _ (Act.put _ (some 19) _) _
      simp only [Act.put, List.setIfInBounds_toArray, List.set_cons_zero, List.set_cons_succ]
      refine wpAnyH_take (i := 3) (v := ?zv51004) rfl (by kernel_rfl) (by kernel_rfl) (by kernel_rfl) (fun _ _ _ h => h) (Or.inl ⟨by kernel_rfl, ?zy51004⟩) (by assumption) ?zr51004
      case zy51004 => (intro w hSw; (try dsimp only at hSw); go_simp; try with_reducible rfl)
      change wpAnyH _ _ _ _ _ _ _ (Act.put _ (some 20) _) _
      simp only [Act.put, List.setIfInBounds_toArray, List.set_cons_zero, List.set_cons_succ]
      refine wpAnyH_take (i := 4) (v := ?zv51005) rfl (by kernel_rfl) (by kernel_rfl) (by kernel_rfl) (fun _ _ _ h => h) (Or.inl ⟨by kernel_rfl, ?zy51005⟩) (by assumption) ?zr51005
      case zy51005 => (intro w hSw; (try dsimp only at hSw); go_simp; try with_reducible rfl)
      change wpAnyH _ _ _ _ _ _ _ (Act.put _ (some 21) _) _
      simp only [Act.put, List.setIfInBounds_toArray, List.set_cons_zero, List.set_cons_succ]
      refine wpAnyH_take (i := 5) (v := ?zv51006) rfl (by kernel_rfl) (by kernel_rfl) (by kernel_rfl) (fun _ _ _ h => h) (Or.inl ⟨by kernel_rfl, ?zy51006⟩) (by assumption) ?zr51006
      case zy51006 => (intro w hSw; (try dsimp only at hSw); go_simp; try with_reducible rfl)
      change wpAnyH _ _ _ _ _ _ _ (Act.put _ (some 22) _) _
      simp only [Act.put, List.setIfInBounds_toArray, List.set_cons_zero, List.set_cons_succ]
      refine wpAnyH_take (i := 6) (v := ?zv51007) rfl (by kernel_rfl) (by kernel_rfl) (by kernel_rfl) (fun _ _ _ h => h) (Or.inl ⟨by kernel_rfl, ?zy51007⟩) (by assumption) ?zr51007
      case zy51007 => (intro w hSw; (try dsimp only at hSw); go_simp; try with_reducible rfl)
      change wpAnyH _ _ _ _ _ _ _ (Act.put _ (some 23) _) _
      simp only [Act.put, List.setIfInBounds_toArray, List.set_cons_zero, List.set_cons_succ]
      refine wpAnyH_take (i := 7) (v := ?zv51008) rfl (by kernel_rfl) (by kernel_rfl) (by kernel_rfl) (fun _ _ _ h => h) (Or.inl ⟨by kernel_rfl, ?zy51008⟩) (by assumption) ?zr51008
      case zy51008 => (intro w hSw; (try dsimp only at hSw); go_simp; try with_reducible rfl)
      change wpAnyH _ _ _ _ _ _ _ (Act.put _ (some 24) _) _
      simp only [Act.put, List.setIfInBounds_toArray, List.set_cons_zero, List.set_cons_succ]
      refine wpAnyH_ready (rs := [8]) (by kernel_rfl) (by simp) (AllReadyH.cons rfl (fun K hK => ?_) AllReadyH.nil)
      go_simp
      go_at_call 93
      refine (eqA_any ⟨ap, ab⟩ _).mono ?_
      rintro e w2 ⟨rfl, hb2⟩
      have hb2 := below_drew_l hb2
      have H1 := Lib.hid (two_cells H1.out hb2)
      have H2 := Lib.hid (two_cells H2.out hb2)
      have HB2 : Hid (Below w.heap.size w w2) := HB.out.trans (hb2.mono HB.out.size)
      clear hb2
      refine hK.out _ _ (⟨H1.out, H2.out⟩) (fun hHeld => ?_)
      clear hK K
      (try simp only [Act.put, List.setIfInBounds_toArray, List.set_cons_zero, List.set_cons_succ])
      refine wpAnyH_take (i := 9) (v := ?zv51009) rfl (by kernel_rfl) (by kernel_rfl) (by kernel_rfl) (fun _ _ _ h => h) (Or.inl ⟨by kernel_rfl, ?zy51009⟩) (by assumption) ?zr51009
      case zy51009 => (intro w hSw; (try dsimp only at hSw); go_simp; try with_reducible rfl)
      change wpAnyH _ _ _ _ _ _ _ (Act.put _ (some 26) _) _
      simp only [Act.put, List.setIfInBounds_toArray, List.set_cons_zero, List.set_cons_succ]
      refine wpAnyH_done (by kernel_rfl) ?_ _
      go_wp2
      go_roundw
      case rel => exact ⟨k + 1, by omega, by go_num, HB2⟩
      case measure => simp [intOf]; omega
    · go_wp2
      go_ret
      exact ⟨rfl, HB.out⟩

set_option maxHeartbeats 4000000 in
set_option maxRecDepth 100000 in
theorem markA_some (base b cap : Nat) (xs : List AD) (w : World) (hO : OwnRow AK w base (some ⟨b, 0, none⟩) cap xs) (hm : xs.length ≤ 1048576) :
    Calls Try.prog 67 #[.slice (some ⟨b, 0, none⟩) xs.length cap, .int .i64 1] w (Marked2 AK w base (some ⟨b, 0, none⟩) cap xs.length (amarks xs.length)) := by
  have HO := Lib.hid hO
  obtain ⟨n, HN⟩ : ∃ n, Hid (xs.length = n) := ⟨_, rfl⟩
  rw [HN.out] at hm ⊢
  clear hO
  go_enter Try.func67, Try.ntmps67
  go_wp2
  go_loopw [1, 5] (fun x i w' => ∃ k : Nat, k ≤ n ∧ x = .int .i64 (1 + 2 * (k : Int)) ∧ i = .int .i64 k ∧ Hid (OwnRow AK w' base (some ⟨b, 0, none⟩) cap (amarks k ++ xs.drop k)) ∧ Hid (w.grownBy w' (some b))) (fun _ i _ => n - (intOf i).toNat)
  case atStart => exact ⟨0, Nat.zero_le _, rfl, rfl, HO, World.grownBy.refl _ _⟩
  case round =>
    obtain ⟨k, hk, rfl, rfl, HO1, HG⟩ := hrel
    by_cases hlt : k < n
    · have hkz : k < xs.length := by rw [HN.out]; exact hlt
      have hlen := amarks_len xs k n HN.out hk
      obtain ⟨⟨d0, e0⟩, ⟨d1, e1⟩⟩ := ask_cellF HO1.out k (by omega)
      have hki : (k : Int) < (n : Int) := by omega
      have hs := ask_p HO1.out k (by omega) (1 + 2 * (k : Int))
      go_upto_region 5 with fail
      obtain ⟨W1, HW1⟩ : ∃ Q0, Hid (wr.setCell ⟨b, k * 2, none⟩ (.int .i64 (1 + 2 * (k : Int))) = Q0) := ⟨_, rfl⟩
      rw [HW1.out] at hs ⊢
      have HS := Lib.hid hs.1
      have HGS : Hid (w.grownBy W1 (some b)) := World.grownBy.trans HG.out hs.2
      clear d0 e0 d1 e1 hs
      obtain ⟨⟨d0, e0⟩, ⟨d1, e1⟩⟩ := ask_cellF HS.out k (by rw [List.length_set]; omega)
      have hs := ask_b HS.out k (by rw [List.length_set]; omega) (2 + 2 * (k : Int))
      rw [show (⟨(ath ((amarks k ++ xs.drop k).set k ⟨1 + 2 * (k : Int), (ath (amarks k ++ xs.drop k) k).b⟩) k).p, 2 + 2 * (k : Int)⟩ : AD) = ⟨((1 + 2 * k : Nat) : Int), ((2 + 2 * k : Nat) : Int)⟩ from AD.same (by rw [ath_set _ _ _ (by omega)]; show (1 : Int) + 2 * (k : Int) = ((1 + 2 * k : Nat) : Int); omega) (by show (2 : Int) + 2 * (k : Int) = ((2 + 2 * k : Nat) : Int); omega), amarks_step xs k hkz _ ⟨0, 0⟩] at hs
      have HT := Lib.hid hs.1
      have HGT : Hid (w.grownBy (W1.setCell ⟨b, k * 2 + 1, none⟩ (.int .i64 (2 + 2 * (k : Int)))) (some b)) := World.grownBy.trans HGS.out hs.2
      have hadd : 1 + 2 * (k : Int) + 1 = 2 + 2 * (k : Int) := by omega
      clear hkz hlen hs
      have hw1 : IntKind.i64.wrap (1 + 2 * (k : Int) + 1) = 2 + 2 * (k : Int) := by rw [hadd]; exact IntWalk.i64_in _ (by omega)
      have hw2 : IntKind.i64.wrap (2 + 2 * (k : Int) + 1) = 3 + 2 * (k : Int) := by rw [show 2 + 2 * (k : Int) + 1 = 3 + 2 * (k : Int) by omega]; exact IntWalk.i64_in _ (by omega)
      clear hadd
      go_wp2
      go_roundw
      case rel => exact ⟨k + 1, by omega, (by first | go_num | (simp; omega)), by go_num, HT, HGT⟩
      case measure => simp [intOf]; omega
    · have hkn : k = n := by omega
      subst hkn
      have ho := HO1.out
      rw [List.drop_eq_nil_of_le (by rw [HN.out]; omega), List.append_nil] at ho
      have HO' := Lib.hid ho
      clear ho
      go_wp2
      go_ret
      exact ⟨ret_int (by simp), HO'.out, (fun b' e => by injection e with e; injection e with e _ _; subst e; exact HG.out), (fun e => by cases e)⟩

set_option maxHeartbeats 4000000 in
set_option maxRecDepth 100000 in
theorem markA_any (base : Nat) (A : Option Addr) (cap : Nat) (xs : List AD) (w : World) (hO : OwnRow AK w base A cap xs) (hm : xs.length ≤ 1048576) :
    Calls Try.prog 67 #[.slice A xs.length cap, .int .i64 1] w (Marked2 AK w base A cap xs.length (amarks xs.length)) := by
  rcases A with _ | ad
  · have h0 := hO.none_nil
    subst h0
    have HO := Lib.hid hO
    clear hO
    go_enter Try.func67, Try.ntmps67
    go_wp2
    go_loop [1, 5] (fun x i => x = .int .i64 1 ∧ i = .int .i64 0) (fun _ _ => 0)
    case atStart => exact ⟨rfl, rfl⟩
    case round =>
      obtain ⟨rfl, rfl⟩ := hrel
      go_wp2
      go_ret
      exact ⟨rfl, HO.out, (fun b e => by cases e), fun _ => Below.refl _ _⟩
  · rcases hO.nowhere with h | ⟨b, h⟩
    · cases h
    · injection h with h
      subst h
      exact markA_some base b cap xs w hO hm

set_option maxHeartbeats 4000000 in
set_option maxRecDepth 100000 in
theorem heldA_any (A : Option Addr) (cap n : Nat) (w : World) (hI : RowAt AK w w.heap.size A (amarks n)) (hm : n ≤ 1048576) :
    Calls Try.prog 72 #[.slice A n cap, .int .i64 1] w fun e w' => e = .returned (.int .i64 ((1 + 2 * n : Nat) : Int)) ∧ Below w.heap.size w w' := by
  have HI := Lib.hid hI
  clear hI
  go_enter Try.func72, Try.ntmps72
  go_wp2
  go_loopw [1, 5] (fun x i w' => ∃ k : Nat, k ≤ n ∧ x = .int .i64 (1 + 2 * (k : Int)) ∧ i = .int .i64 k ∧ w' = w) (fun _ i _ => n - (intOf i).toNat)
  case atStart => exact ⟨0, Nat.zero_le _, rfl, rfl, (by first | trivial | rfl)⟩
  case round =>
    obtain ⟨k, hk, rfl, rfl, rfl⟩ := hrel
    by_cases hlt : k < n
    · have hkz : k < (amarks n).length := by rw [amarks_length]; exact hlt
      obtain ⟨b, o, rfl⟩ := HI.out.some_ (by omega)
      obtain ⟨c0, c1⟩ := ask_cells HI.out k hkz
      rw [amarks_ath n k hlt] at c0 c1
      have hc0 : ((1 + 2 * k : Nat) : Int) = 1 + 2 * (k : Int) := by omega
      have hc1 : ((2 + 2 * k : Nat) : Int) = 2 + 2 * (k : Int) := by omega
      simp only [hc0, hc1] at c0 c1
      have hki : (k : Int) < (n : Int) := by omega
      have hn1 : ((1 + 2 * (k : Int)) != (1 + 2 * (k : Int))) = false := by simp
      have hn2 : ((2 + 2 * (k : Int)) != (2 + 2 * (k : Int))) = false := by simp
      have hw1 : IntKind.i64.wrap (1 + 2 * (k : Int) + 1) = 2 + 2 * (k : Int) := by rw [show 1 + 2 * (k : Int) + 1 = 2 + 2 * (k : Int) by omega]; exact IntWalk.i64_in _ (by omega)
      have hw2 : IntKind.i64.wrap (2 + 2 * (k : Int) + 1) = 3 + 2 * (k : Int) := by rw [show 2 + 2 * (k : Int) + 1 = 3 + 2 * (k : Int) by omega]; exact IntWalk.i64_in _ (by omega)
      clear hkz hc0 hc1
      go_wp2
      go_roundw
      case rel => exact ⟨k + 1, by omega, (by first | go_num | (simp; omega)), by go_num, (by first | trivial | rfl)⟩
      case measure => simp [intOf]; omega
    · have hkn : k = n := by omega
      subst hkn
      go_wp2
      go_ret
      exact ⟨ret_int (by simp), Below.refl _ _⟩

end Go.Proofs.Ytkmebilhbjcfpaa
