/- Contracts of the methods of a linked list of requests, and of the conditions that they are told. Condition: the list lies in memory and has at most 1000 requests. -/
import Derived.Test.YtkmebilhbjcfpaaGreatChain
import Derived.Deep.LoopGhost
import Derived.Deep.DeepCutAuto
namespace Go.Proofs.YtkmebilhbjcfpaaGreat
open Go.RowKit
set_option linter.unusedVariables false

theorem one_cell {W : World} {g : Nat} {t : TypeId} {v0 : Value} (h : Blk W g t #[v0]) : W.cell? ⟨g, 0, none⟩ = some v0 := h.cell 0

set_option maxHeartbeats 2000000 in
set_option maxRecDepth 100000 in
theorem closP_any (x : AD) (v : Int) (c : Nat) (w : World) (hK : Blk w c 3 #[.int .i64 v]) :
    Calls Tryz.prog 185 #[askV x, .pointer (some ⟨c, 0, none⟩)] w fun e w' => e = .returned (.bool (isP v x)) ∧ Below w.heap.size w w' := by
  obtain ⟨xp, xb⟩ := x
  have c0 := one_cell (hK.alloc (.cells #[.int .i64 xp, .int .i64 xb] 105))
  clear hK
  go_enter Tryz.func185, Tryz.ntmps185
  go_wp2
  go_ret
  exact ⟨rfl, (Below.refl _ w).alloc (Nat.le_refl _) _⟩

set_option maxHeartbeats 2000000 in
set_option maxRecDepth 100000 in
theorem mkP_any (v : Int) (w : World) :
    Calls Tryz.prog 178 #[.int .i64 v] w fun e w' => e = .returned (.func (.func 185) #[] #[.pointer (some ⟨w.heap.size, 0, none⟩)]) ∧ w' = w.alloc (.cells #[.int .i64 v] 3) := by
  have hmf : ∀ (fn : Fn) (first cap : Array Value) (w : World), (Instr.makeFunc fn first cap).run Tryz.prog w = .ok (.func fn first cap) w := fun _ _ _ _ => rfl
  go_enter Tryz.func178, Tryz.ntmps178
  go_wp2
  go_ret
  exact ⟨rfl, rfl⟩

set_option maxHeartbeats 2000000 in
set_option maxRecDepth 100000 in
theorem closB_any (x : AD) (v : Int) (c : Nat) (w : World) (hK : Blk w c 3 #[.int .i64 v]) :
    Calls Tryz.prog 186 #[askV x, .pointer (some ⟨c, 0, none⟩)] w fun e w' => e = .returned (.bool (isB v x)) ∧ Below w.heap.size w w' := by
  obtain ⟨xp, xb⟩ := x
  have c0 := one_cell (hK.alloc (.cells #[.int .i64 xp, .int .i64 xb] 105))
  clear hK
  go_enter Tryz.func186, Tryz.ntmps186
  go_wp2
  go_ret
  exact ⟨rfl, (Below.refl _ w).alloc (Nat.le_refl _) _⟩

set_option maxHeartbeats 2000000 in
set_option maxRecDepth 100000 in
theorem mkB_any (v : Int) (w : World) :
    Calls Tryz.prog 179 #[.int .i64 v] w fun e w' => e = .returned (.func (.func 186) #[] #[.pointer (some ⟨w.heap.size, 0, none⟩)]) ∧ w' = w.alloc (.cells #[.int .i64 v] 3) := by
  have hmf : ∀ (fn : Fn) (first cap : Array Value) (w : World), (Instr.makeFunc fn first cap).run Tryz.prog w = .ok (.func fn first cap) w := fun _ _ _ _ => rfl
  go_enter Tryz.func179, Tryz.ntmps179
  go_wp2
  go_ret
  exact ⟨rfl, rfl⟩

set_option maxHeartbeats 2000000 in
set_option maxRecDepth 100000 in
theorem closA_any (x v : AD) (c : Nat) (w : World) (hK : Blk w c 105 #[.int .i64 v.p, .int .i64 v.b]) :
    Calls Tryz.prog 184 #[askV x, .pointer (some ⟨c, 0, none⟩)] w fun e w' => e = .returned (.bool (isA v x)) ∧ Below w.heap.size w w' := by
  obtain ⟨xp, xb⟩ := x
  obtain ⟨vp, vb⟩ := v
  obtain ⟨c0, c1⟩ := ask2 (hK.alloc (.cells #[.int .i64 xp, .int .i64 xb] 105))
  clear hK
  have HE : Hid (isA ⟨vp, vb⟩ ⟨xp, xb⟩ = (xp == vp && xb == vb)) := rfl
  by_cases h0 : xp = vp
  · by_cases h1 : xb = vb
    · subst h0 h1
      have HF : Hid (isA ⟨xp, xb⟩ ⟨xp, xb⟩ = true) := by show _ = _; rw [HE.out, beq_self_eq_true, beq_self_eq_true]; rfl
      go_enter Tryz.func184, Tryz.ntmps184
      go_wp2
      go_ret
      exact ⟨ret_bool (by rw [HF.out]), (Below.refl _ w).alloc (Nat.le_refl _) _⟩
    · subst h0
      have HF : Hid (isA ⟨xp, vb⟩ ⟨xp, xb⟩ = false) := by show _ = _; rw [HE.out, beq_eq_false_iff_ne.2 h1, Bool.and_false]
      go_enter Tryz.func184, Tryz.ntmps184
      go_wp2
      go_ret
      exact ⟨ret_bool (by rw [HF.out]), (Below.refl _ w).alloc (Nat.le_refl _) _⟩
  · have HF : Hid (isA ⟨vp, vb⟩ ⟨xp, xb⟩ = false) := by show _ = _; rw [HE.out, beq_eq_false_iff_ne.2 h0, Bool.false_and]
    go_enter Tryz.func184, Tryz.ntmps184
    go_wp2
    go_ret
    exact ⟨ret_bool (by rw [HF.out]), (Below.refl _ w).alloc (Nat.le_refl _) _⟩

set_option maxHeartbeats 2000000 in
set_option maxRecDepth 100000 in
theorem countP_any (B g0 c : Nat) (z : AD) (v : Int) (r : List (Nat × AD)) (w : World) (hC : Chain w B ((g0, z) :: r)) (hK : Blk w c 3 #[.int .i64 v]) (hr : r.length ≤ 1000) :
    Calls Tryz.prog 177 #[.pointer (some ⟨g0, 0, none⟩), .func (.func 185) #[] #[.pointer (some ⟨c, 0, none⟩)]] w fun e w' => e = .returned (.int .i64 (((asksOf r).countP (isP v) : Nat) : Int)) ∧ Below w.heap.size w w' := by
  have HC := Lib.hid hC
  have HK := Lib.hid hK
  obtain ⟨q0, HQ0⟩ : ∃ q, Hid (hd r = q) := ⟨_, rfl⟩
  have h2 : w.cell? ⟨g0, 2, none⟩ = some (.pointer q0) := by
    rw [← HQ0.out]
    exact (node_cells (hC.at_ (a := []) (x := (g0, z)) (r := r))).2.2
  clear hC hK
  go_enter Tryz.func177, Tryz.ntmps177
  go_wp2
  go_loopg [5, 6] r.length (fun gg n at_ wr => ∃ (pre r' : List (Nat × AD)) (q : Option Addr), n = .int .i64 (((asksOf pre).countP (isP v) : Nat) : Int) ∧ at_ = .pointer q ∧ r'.length ≤ gg ∧ Hid (r = pre ++ r') ∧ Hid (hd r' = q) ∧ Hid (Below w.heap.size w wr))
  case atStart => exact ⟨[], r, q0, rfl, rfl, Nat.le_refl _, rfl, HQ0, Below.refl _ _⟩
  case round =>
    obtain ⟨pre, r', q, rfl, rfl, hgg, HE, HQ, HB⟩ := hrel
    obtain ⟨cnt, HN⟩ : ∃ m, Hid ((asksOf pre).countP (isP v) = m) := ⟨_, rfl⟩
    have hcn : cnt ≤ 1000 := by
      rw [← HN.out]
      have h1 := count_le (isP v) (asksOf pre)
      rw [asksOf_length] at h1
      have h2 := congrArg List.length HE.out
      rw [List.length_append] at h2
      omega
    rw [HN.out]
    cases r' with
    | nil =>
      have hq : q = none := HQ.out.symm
      subst hq
      have HF : Hid ((asksOf r).countP (isP v) = cnt) := by
        show _ = _
        rw [HE.out, List.append_nil]; exact HN.out
      clear hgg
      go_wp2
      go_ret
      exact ⟨ret_int (by rw [HF.out]), HB.out⟩
    | cons x r2 =>
      obtain ⟨gx, xp, xb⟩ := x
      have hq : q = some ⟨gx, 0, none⟩ := HQ.out.symm
      subst hq
      have hgg2 : r2.length < gk := hgg
      clear hgg
      have hsp : Chain w B (((g0, z) :: pre) ++ (gx, ⟨xp, xb⟩) :: r2) := by
        rw [List.cons_append, ← HE.out]; exact HC.out
      obtain ⟨q2, HQ2⟩ : ∃ q, Hid (hd r2 = q) := ⟨_, rfl⟩
      have HND : Hid (Blk wr gx 186 (nodeC ⟨xp, xb⟩ q2)) := by rw [← HQ2.out]; exact (hsp.below HB.out (Nat.le_refl _)).at_
      obtain ⟨c0, c1, c2⟩ := node_cells HND.out
      have C := Lib.hid (closP_any ⟨xp, xb⟩ v c wr (HK.out.below HB.out HK.out.lt))
      have HE2 : Hid (r = (pre ++ [(gx, ⟨xp, xb⟩)]) ++ r2) := by
        show _ = _
        rw [List.append_assoc]; exact HE.out
      have HS : Hid ((asksOf (pre ++ [(gx, ⟨xp, xb⟩)])).countP (isP v) = cnt + (if isP v ⟨xp, xb⟩ = true then 1 else 0)) := by
        show _ = _
        rw [asksOf_append, ← HN.out]
        exact count_snoc _ _ _
      clear hsp
      cases hf : isP v ⟨xp, xb⟩ with
      | true =>
        rw [hf] at C
        have HS2 : Hid ((asksOf (pre ++ [(gx, ⟨xp, xb⟩)])).countP (isP v) = cnt + 1) := by
          show _ = _
          rw [HS.out, if_pos hf]
        clear hf
        go_wp2_with fail
        refine C.out.mono ?_
        rintro e w2 ⟨rfl, hb2⟩
        have HB2 : Hid (Below w.heap.size w w2) := HB.out.trans (hb2.mono HB.out.size)
        obtain ⟨d0, d1, d2⟩ := node_cells (HND.out.below hb2 HND.out.lt)
        clear hb2 c0 c1 c2
        go_wp2
        go_roundg r2.length
        case measure => exact hgg2
        case rel => exact ⟨pre ++ [(gx, ⟨xp, xb⟩)], r2, q2, by rw [HS2.out]; go_num, rfl, Nat.le_refl _, HE2, HQ2, HB2⟩
      | false =>
        rw [hf] at C
        have HS2 : Hid ((asksOf (pre ++ [(gx, ⟨xp, xb⟩)])).countP (isP v) = cnt) := by
          show _ = _
          rw [HS.out, hf]; rfl
        clear hf
        go_wp2_with fail
        refine C.out.mono ?_
        rintro e w2 ⟨rfl, hb2⟩
        have HB2 : Hid (Below w.heap.size w w2) := HB.out.trans (hb2.mono HB.out.size)
        obtain ⟨d0, d1, d2⟩ := node_cells (HND.out.below hb2 HND.out.lt)
        clear hb2 c0 c1 c2
        go_wp2
        go_roundg r2.length
        case measure => exact hgg2
        case rel => exact ⟨pre ++ [(gx, ⟨xp, xb⟩)], r2, q2, by rw [HS2.out], rfl, Nat.le_refl _, HE2, HQ2, HB2⟩

set_option maxHeartbeats 2000000 in
set_option maxRecDepth 100000 in
theorem countB_any (B g0 c : Nat) (z : AD) (v : Int) (r : List (Nat × AD)) (w : World) (hC : Chain w B ((g0, z) :: r)) (hK : Blk w c 3 #[.int .i64 v]) (hr : r.length ≤ 1000) :
    Calls Tryz.prog 177 #[.pointer (some ⟨g0, 0, none⟩), .func (.func 186) #[] #[.pointer (some ⟨c, 0, none⟩)]] w fun e w' => e = .returned (.int .i64 (((asksOf r).countP (isB v) : Nat) : Int)) ∧ Below w.heap.size w w' := by
  have HC := Lib.hid hC
  have HK := Lib.hid hK
  obtain ⟨q0, HQ0⟩ : ∃ q, Hid (hd r = q) := ⟨_, rfl⟩
  have h2 : w.cell? ⟨g0, 2, none⟩ = some (.pointer q0) := by
    rw [← HQ0.out]
    exact (node_cells (hC.at_ (a := []) (x := (g0, z)) (r := r))).2.2
  clear hC hK
  go_enter Tryz.func177, Tryz.ntmps177
  go_wp2
  go_loopg [5, 6] r.length (fun gg n at_ wr => ∃ (pre r' : List (Nat × AD)) (q : Option Addr), n = .int .i64 (((asksOf pre).countP (isB v) : Nat) : Int) ∧ at_ = .pointer q ∧ r'.length ≤ gg ∧ Hid (r = pre ++ r') ∧ Hid (hd r' = q) ∧ Hid (Below w.heap.size w wr))
  case atStart => exact ⟨[], r, q0, rfl, rfl, Nat.le_refl _, rfl, HQ0, Below.refl _ _⟩
  case round =>
    obtain ⟨pre, r', q, rfl, rfl, hgg, HE, HQ, HB⟩ := hrel
    obtain ⟨cnt, HN⟩ : ∃ m, Hid ((asksOf pre).countP (isB v) = m) := ⟨_, rfl⟩
    have hcn : cnt ≤ 1000 := by
      rw [← HN.out]
      have h1 := count_le (isB v) (asksOf pre)
      rw [asksOf_length] at h1
      have h2 := congrArg List.length HE.out
      rw [List.length_append] at h2
      omega
    rw [HN.out]
    cases r' with
    | nil =>
      have hq : q = none := HQ.out.symm
      subst hq
      have HF : Hid ((asksOf r).countP (isB v) = cnt) := by
        show _ = _
        rw [HE.out, List.append_nil]; exact HN.out
      clear hgg
      go_wp2
      go_ret
      exact ⟨ret_int (by rw [HF.out]), HB.out⟩
    | cons x r2 =>
      obtain ⟨gx, xp, xb⟩ := x
      have hq : q = some ⟨gx, 0, none⟩ := HQ.out.symm
      subst hq
      have hgg2 : r2.length < gk := hgg
      clear hgg
      have hsp : Chain w B (((g0, z) :: pre) ++ (gx, ⟨xp, xb⟩) :: r2) := by
        rw [List.cons_append, ← HE.out]; exact HC.out
      obtain ⟨q2, HQ2⟩ : ∃ q, Hid (hd r2 = q) := ⟨_, rfl⟩
      have HND : Hid (Blk wr gx 186 (nodeC ⟨xp, xb⟩ q2)) := by rw [← HQ2.out]; exact (hsp.below HB.out (Nat.le_refl _)).at_
      obtain ⟨c0, c1, c2⟩ := node_cells HND.out
      have C := Lib.hid (closB_any ⟨xp, xb⟩ v c wr (HK.out.below HB.out HK.out.lt))
      have HE2 : Hid (r = (pre ++ [(gx, ⟨xp, xb⟩)]) ++ r2) := by
        show _ = _
        rw [List.append_assoc]; exact HE.out
      have HS : Hid ((asksOf (pre ++ [(gx, ⟨xp, xb⟩)])).countP (isB v) = cnt + (if isB v ⟨xp, xb⟩ = true then 1 else 0)) := by
        show _ = _
        rw [asksOf_append, ← HN.out]
        exact count_snoc _ _ _
      clear hsp
      cases hf : isB v ⟨xp, xb⟩ with
      | true =>
        rw [hf] at C
        have HS2 : Hid ((asksOf (pre ++ [(gx, ⟨xp, xb⟩)])).countP (isB v) = cnt + 1) := by
          show _ = _
          rw [HS.out, if_pos hf]
        clear hf
        go_wp2_with fail
        refine C.out.mono ?_
        rintro e w2 ⟨rfl, hb2⟩
        have HB2 : Hid (Below w.heap.size w w2) := HB.out.trans (hb2.mono HB.out.size)
        obtain ⟨d0, d1, d2⟩ := node_cells (HND.out.below hb2 HND.out.lt)
        clear hb2 c0 c1 c2
        go_wp2
        go_roundg r2.length
        case measure => exact hgg2
        case rel => exact ⟨pre ++ [(gx, ⟨xp, xb⟩)], r2, q2, by rw [HS2.out]; go_num, rfl, Nat.le_refl _, HE2, HQ2, HB2⟩
      | false =>
        rw [hf] at C
        have HS2 : Hid ((asksOf (pre ++ [(gx, ⟨xp, xb⟩)])).countP (isB v) = cnt) := by
          show _ = _
          rw [HS.out, hf]; rfl
        clear hf
        go_wp2_with fail
        refine C.out.mono ?_
        rintro e w2 ⟨rfl, hb2⟩
        have HB2 : Hid (Below w.heap.size w w2) := HB.out.trans (hb2.mono HB.out.size)
        obtain ⟨d0, d1, d2⟩ := node_cells (HND.out.below hb2 HND.out.lt)
        clear hb2 c0 c1 c2
        go_wp2
        go_roundg r2.length
        case measure => exact hgg2
        case rel => exact ⟨pre ++ [(gx, ⟨xp, xb⟩)], r2, q2, by rw [HS2.out], rfl, Nat.le_refl _, HE2, HQ2, HB2⟩

set_option maxHeartbeats 2000000 in
set_option maxRecDepth 100000 in
theorem countA_any (B g0 c : Nat) (z : AD) (v : AD) (r : List (Nat × AD)) (w : World) (hC : Chain w B ((g0, z) :: r)) (hK : Blk w c 105 #[.int .i64 v.p, .int .i64 v.b]) (hr : r.length ≤ 1000) :
    Calls Tryz.prog 177 #[.pointer (some ⟨g0, 0, none⟩), .func (.func 184) #[] #[.pointer (some ⟨c, 0, none⟩)]] w fun e w' => e = .returned (.int .i64 (((asksOf r).countP (isA v) : Nat) : Int)) ∧ Below w.heap.size w w' := by
  have HC := Lib.hid hC
  have HK := Lib.hid hK
  obtain ⟨q0, HQ0⟩ : ∃ q, Hid (hd r = q) := ⟨_, rfl⟩
  have h2 : w.cell? ⟨g0, 2, none⟩ = some (.pointer q0) := by
    rw [← HQ0.out]
    exact (node_cells (hC.at_ (a := []) (x := (g0, z)) (r := r))).2.2
  clear hC hK
  go_enter Tryz.func177, Tryz.ntmps177
  go_wp2
  go_loopg [5, 6] r.length (fun gg n at_ wr => ∃ (pre r' : List (Nat × AD)) (q : Option Addr), n = .int .i64 (((asksOf pre).countP (isA v) : Nat) : Int) ∧ at_ = .pointer q ∧ r'.length ≤ gg ∧ Hid (r = pre ++ r') ∧ Hid (hd r' = q) ∧ Hid (Below w.heap.size w wr))
  case atStart => exact ⟨[], r, q0, rfl, rfl, Nat.le_refl _, rfl, HQ0, Below.refl _ _⟩
  case round =>
    obtain ⟨pre, r', q, rfl, rfl, hgg, HE, HQ, HB⟩ := hrel
    obtain ⟨cnt, HN⟩ : ∃ m, Hid ((asksOf pre).countP (isA v) = m) := ⟨_, rfl⟩
    have hcn : cnt ≤ 1000 := by
      rw [← HN.out]
      have h1 := count_le (isA v) (asksOf pre)
      rw [asksOf_length] at h1
      have h2 := congrArg List.length HE.out
      rw [List.length_append] at h2
      omega
    rw [HN.out]
    cases r' with
    | nil =>
      have hq : q = none := HQ.out.symm
      subst hq
      have HF : Hid ((asksOf r).countP (isA v) = cnt) := by
        show _ = _
        rw [HE.out, List.append_nil]; exact HN.out
      clear hgg
      go_wp2
      go_ret
      exact ⟨ret_int (by rw [HF.out]), HB.out⟩
    | cons x r2 =>
      obtain ⟨gx, xp, xb⟩ := x
      have hq : q = some ⟨gx, 0, none⟩ := HQ.out.symm
      subst hq
      have hgg2 : r2.length < gk := hgg
      clear hgg
      have hsp : Chain w B (((g0, z) :: pre) ++ (gx, ⟨xp, xb⟩) :: r2) := by
        rw [List.cons_append, ← HE.out]; exact HC.out
      obtain ⟨q2, HQ2⟩ : ∃ q, Hid (hd r2 = q) := ⟨_, rfl⟩
      have HND : Hid (Blk wr gx 186 (nodeC ⟨xp, xb⟩ q2)) := by rw [← HQ2.out]; exact (hsp.below HB.out (Nat.le_refl _)).at_
      obtain ⟨c0, c1, c2⟩ := node_cells HND.out
      have C := Lib.hid (closA_any ⟨xp, xb⟩ v c wr (HK.out.below HB.out HK.out.lt))
      have HE2 : Hid (r = (pre ++ [(gx, ⟨xp, xb⟩)]) ++ r2) := by
        show _ = _
        rw [List.append_assoc]; exact HE.out
      have HS : Hid ((asksOf (pre ++ [(gx, ⟨xp, xb⟩)])).countP (isA v) = cnt + (if isA v ⟨xp, xb⟩ = true then 1 else 0)) := by
        show _ = _
        rw [asksOf_append, ← HN.out]
        exact count_snoc _ _ _
      clear hsp
      cases hf : isA v ⟨xp, xb⟩ with
      | true =>
        rw [hf] at C
        have HS2 : Hid ((asksOf (pre ++ [(gx, ⟨xp, xb⟩)])).countP (isA v) = cnt + 1) := by
          show _ = _
          rw [HS.out, if_pos hf]
        clear hf
        go_wp2_with fail
        refine C.out.mono ?_
        rintro e w2 ⟨rfl, hb2⟩
        have HB2 : Hid (Below w.heap.size w w2) := HB.out.trans (hb2.mono HB.out.size)
        obtain ⟨d0, d1, d2⟩ := node_cells (HND.out.below hb2 HND.out.lt)
        clear hb2 c0 c1 c2
        go_wp2
        go_roundg r2.length
        case measure => exact hgg2
        case rel => exact ⟨pre ++ [(gx, ⟨xp, xb⟩)], r2, q2, by rw [HS2.out]; go_num, rfl, Nat.le_refl _, HE2, HQ2, HB2⟩
      | false =>
        rw [hf] at C
        have HS2 : Hid ((asksOf (pre ++ [(gx, ⟨xp, xb⟩)])).countP (isA v) = cnt) := by
          show _ = _
          rw [HS.out, hf]; rfl
        clear hf
        go_wp2_with fail
        refine C.out.mono ?_
        rintro e w2 ⟨rfl, hb2⟩
        have HB2 : Hid (Below w.heap.size w w2) := HB.out.trans (hb2.mono HB.out.size)
        obtain ⟨d0, d1, d2⟩ := node_cells (HND.out.below hb2 HND.out.lt)
        clear hb2 c0 c1 c2
        go_wp2
        go_roundg r2.length
        case measure => exact hgg2
        case rel => exact ⟨pre ++ [(gx, ⟨xp, xb⟩)], r2, q2, by rw [HS2.out], rfl, Nat.le_refl _, HE2, HQ2, HB2⟩

/-- What link leaves: one request more. -/
def Linked (B g0 : Nat) (z : AD) (r : List (Nat × AD)) (a : AD) (w w' : World) : Prop :=
  ∃ g, Chain w' B ((g0, z) :: (r ++ [(g, a)])) ∧ Below B w w'

set_option maxHeartbeats 2000000 in
set_option maxRecDepth 100000 in
theorem link_any (B g0 : Nat) (z : AD) (r : List (Nat × AD)) (a : AD) (w : World) (hC : Chain w B ((g0, z) :: r)) :
    Calls Tryz.prog 160 #[.pointer (some ⟨g0, 0, none⟩), askV a] w fun e w' => e = .returned (.tuple #[]) ∧ Linked B g0 z r a w w' := by
  obtain ⟨ap, ab⟩ := a
  have hBw : B ≤ w.heap.size := by
    have h1 := hC.low (g0, z) List.mem_cons_self
    have h2 := hC.lt (g0, z) List.mem_cons_self
    omega
  obtain ⟨W, HW⟩ : ∃ W, Hid (w.alloc (.cells #[.int .i64 ap, .int .i64 ab] 105) = W) := ⟨_, rfl⟩
  have KA : Hid (Blk W w.heap.size 105 #[.int .i64 ap, .int .i64 ab]) := by rw [← HW.out]; exact Blk.new w _ _
  have HB : Hid (Below B w W) := by rw [← HW.out]; exact (Below.refl _ w).alloc hBw _
  have HC : Hid (Chain W B ((g0, z) :: r)) := by rw [← HW.out]; exact hC.alloc _
  have hWz : w.heap.size < W.heap.size := KA.out.lt
  clear hC
  go_enter Tryz.func160, Tryz.ntmps160
  go_upto_region 1 with fail
  rw [HW.out]
  go_wp2
  go_loopg [4] r.length (fun gg last wr => ∃ (pre : List (Nat × AD)) (x : Nat × AD) (r' : List (Nat × AD)), last = .pointer (some ⟨x.1, 0, none⟩) ∧ r'.length ≤ gg ∧ wr = W ∧ Hid ((g0, z) :: r = pre ++ x :: r'))
  case atStart => exact ⟨[], (g0, z), r, rfl, Nat.le_refl _, rfl, rfl⟩
  case round =>
    obtain ⟨pre, x, r', rfl, hgg, rfl, HE⟩ := hrel
    obtain ⟨gx, xp, xb⟩ := x
    have hsp : Chain wr B (pre ++ (gx, ⟨xp, xb⟩) :: r') := by rw [← HE.out]; exact HC.out
    cases r' with
    | nil =>
      have HND : Hid (Blk wr gx 186 (nodeC ⟨xp, xb⟩ none)) := hsp.at_
      obtain ⟨c0, c1, c2⟩ := node_cells HND.out
      obtain ⟨a0, a1⟩ := ask2 KA.out
      have hgx := HND.out.lt
      have hfr := blk_frozen (HND.out.alloc (.cells (nodeC ⟨ap, ab⟩ none) 186))
      have HF : Hid (Chain ((wr.alloc (.cells (nodeC ⟨ap, ab⟩ none) 186)).setCell ⟨gx, 2, none⟩ (.pointer (some ⟨wr.heap.size, 0, none⟩))) B (pre ++ [(gx, ⟨xp, xb⟩), (wr.heap.size, ⟨ap, ab⟩)])) := hsp.link ⟨ap, ab⟩
      have HBF : Hid (Below B w ((wr.alloc (.cells (nodeC ⟨ap, ab⟩ none) 186)).setCell ⟨gx, 2, none⟩ (.pointer (some ⟨wr.heap.size, 0, none⟩)))) :=
        (HB.out.alloc (Nat.le_trans hBw HB.out.size) _).setCell (p := ⟨gx, 2, none⟩) (hsp.low (gx, ⟨xp, xb⟩) (List.mem_append_right _ List.mem_cons_self)) _
      have HEE : Hid ((g0, z) :: (r ++ [(wr.heap.size, ⟨ap, ab⟩)]) = pre ++ [(gx, ⟨xp, xb⟩), (wr.heap.size, ⟨ap, ab⟩)]) := by
        show _ = _
        rw [← List.cons_append, HE.out, List.append_assoc]; rfl
      clear hsp hgg
      go_wp2
      go_end0
      have hcm := alloc_setCell wr (.cells (nodeC ⟨ap, ab⟩ none) 186) ⟨gx, 2, none⟩ (.pointer (some ⟨wr.heap.size, 0, none⟩)) hgx
      exact ⟨rfl, wr.heap.size, by rw [HEE.out, ← hcm]; exact HF.out, by rw [← hcm]; exact HBF.out⟩
    | cons y r2 =>
      obtain ⟨gy, yp, yb⟩ := y
      have HND : Hid (Blk wr gx 186 (nodeC ⟨xp, xb⟩ (some ⟨gy, 0, none⟩))) := hsp.at_
      obtain ⟨c0, c1, c2⟩ := node_cells HND.out
      have hgg2 : r2.length < gk := hgg
      have HE2 : Hid ((g0, z) :: r = (pre ++ [(gx, ⟨xp, xb⟩)]) ++ (gy, ⟨yp, yb⟩) :: r2) := by
        show _ = _
        rw [List.append_assoc]; exact HE.out
      clear hsp hgg
      go_wp2
      go_roundg r2.length
      case measure => exact hgg2
      case rel => exact ⟨pre ++ [(gx, ⟨xp, xb⟩)], (gy, ⟨yp, yb⟩), r2, rfl, Nat.le_refl _, rfl, HE2⟩

/-- What remove leaves. -/
def Removed (B g0 : Nat) (z : AD) (r : List (Nat × AD)) (f : AD → Bool) (w w' : World) : Prop :=
  ∃ r2, Chain w' B ((g0, z) :: r2) ∧ asksOf r2 = (asksOf r).filter (fun x => !f x) ∧ Below B w w'
/-- Where the loop of remove stands. -/
structure Rem (w : World) (B g0 c : Nat) (t : TypeId) (cs : Array Value) (z : AD) (r : List (Nat × AD)) (f : AD → Bool) (pre : List (Nat × AD)) (x : Nat × AD) (r' : List (Nat × AD)) (m : Nat) (wr : World) : Prop where
  chain : Chain wr B (pre ++ x :: r')
  cap : Blk wr c t cs
  below : Below B w wr
  asks : ∃ tl, pre ++ [x] = (g0, z) :: tl ∧ asksOf tl ++ (asksOf r').filter (fun x => !f x) = (asksOf r).filter (fun x => !f x)
  cnt : m + (asksOf r').countP f = (asksOf r).countP f
section
variable {w wr w2 : World} {B g0 c : Nat} {t : TypeId} {cs : Array Value} {z : AD} {r : List (Nat × AD)} {f : AD → Bool} {pre : List (Nat × AD)} {x y : Nat × AD} {r' : List (Nat × AD)} {m : Nat}
theorem Rem.start (hC : Chain w B ((g0, z) :: r)) (hK : Blk w c t cs) : Rem w B g0 c t cs z r f [] (g0, z) r 0 w := ⟨hC, hK, Below.refl _ _, ⟨[], rfl, rfl⟩, Nat.zero_add _⟩
theorem Rem.low (h : Rem w B g0 c t cs z r f pre x r' m wr) : B ≤ x.1 := h.chain.low x (List.mem_append_right _ List.mem_cons_self)
theorem Rem.wle (h : Rem w B g0 c t cs z r f pre x r' m wr) : B ≤ wr.heap.size := by
  have h1 := h.low
  have h2 := h.chain.lt x (List.mem_append_right _ List.mem_cons_self)
  omega
theorem Rem.belowS (h : Rem w B g0 c t cs z r f pre x r' m wr) (hb : Below wr.heap.size wr w2) : Rem w B g0 c t cs z r f pre x r' m w2 :=
  ⟨h.chain.below hb (Nat.le_refl _), h.cap.below hb h.cap.lt, h.below.trans (hb.mono h.wle), h.asks, h.cnt⟩
theorem Rem.next (h : Rem w B g0 c t cs z r f pre x (y :: r') m wr) (hf : f y.2 = false) : Rem w B g0 c t cs z r f (pre ++ [x]) y r' m wr := by
  refine ⟨by rw [List.append_assoc]; exact h.chain, h.cap, h.below, ?_, ?_⟩
  · obtain ⟨tl, h1, h2⟩ := h.asks
    refine ⟨tl ++ [y], by rw [h1]; rfl, ?_⟩
    rw [asksOf_append, ← h2, List.append_assoc]
    show _ ++ ([y.2] ++ _) = _ ++ List.filter _ (y.2 :: asksOf r')
    rw [List.filter_cons, hf]; rfl
  · have := h.cnt
    change m + (y.2 :: asksOf r').countP f = _ at this
    rw [List.countP_cons, hf] at this
    simpa using this
theorem Rem.cut (h : Rem w B g0 c t cs z r f pre x (y :: r') m wr) (hf : f y.2 = true) (ht : t ≠ 186) : Rem w B g0 c t cs z r f pre x r' (m + 1) (wr.setCell ⟨x.1, 2, none⟩ (.pointer (hd r'))) := by
  refine ⟨h.chain.cut, h.cap.setOther (fun e => Blk.ne_ h.cap h.chain.at_ ht e.symm) _, h.below.setCell (p := ⟨x.1, 2, none⟩) h.low _, ?_, ?_⟩
  · obtain ⟨tl, h1, h2⟩ := h.asks
    refine ⟨tl, h1, ?_⟩
    rw [← h2]
    show _ = _ ++ List.filter _ (y.2 :: asksOf r')
    rw [List.filter_cons, hf]; rfl
  · have := h.cnt
    change m + (y.2 :: asksOf r').countP f = _ at this
    rw [List.countP_cons, hf] at this
    simp at this; omega
theorem Rem.done (h : Rem w B g0 c t cs z r f pre x [] m wr) : m = (asksOf r).countP f ∧ Removed B g0 z r f w wr := by
  refine ⟨by have := h.cnt; exact this, ?_⟩
  obtain ⟨tl, h1, h2⟩ := h.asks
  have hc := h.chain
  rw [h1] at hc
  exact ⟨tl, hc, by rw [← h2]; exact (List.append_nil _).symm, h.below⟩
end







end Go.Proofs.YtkmebilhbjcfpaaGreat
