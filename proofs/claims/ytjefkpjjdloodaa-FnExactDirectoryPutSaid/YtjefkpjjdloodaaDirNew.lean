/- Contract of the program's newDirectory: it lays the times of a valid directory into an array. Conditions: the nodes lie in memory, the directory is valid. -/
import Derived.Test.YtjefkpjjdloodaaDirVal
import Derived.Laws.CopyOwn
namespace Go.Proofs.Ytjefkpjjdloodaa
open Go.RowKit
set_option linter.unusedVariables false
theorem dir_info : (Try.prog.info? 47).map (fun i => (i.zero, i.size)) = some (some (.agg (arrD (fun _ => 0))), 100) := by
  rw [← arrD_zero]; kernel_rfl
theorem store_arr {w : World} {g : Nat} {old f : Nat → Int} (h : Blk w g 47 (arrD old)) : (storeCells ⟨g, 0, none⟩ (arrD f).toList).run Try.prog w = .ok () (w.setRow g (arrD f)) := by
  have := run_storeVar_row (P := Try.prog) w g 47 47 (arrD old) (arrD f) h (by rw [arrD_size]; exact (zero_of_info dir_info).2) (by rw [arrD_size, arrD_size]) (arrD_one f)
  have hi := (zero_of_info dir_info).2
  cases hq : Try.prog.info? 47 with
  | none => simp [hq] at hi
  | some i =>
    have hs : (arrD f).size = i.size := by rw [arrD_size]; simp [hq] at hi; omega
    simpa [storeVar, sizeOf, typeInfo, hq, Value.cells, hs] using this
theorem load_arr {w : World} {g : Nat} {f : Nat → Int} (h : Blk w g 47 (arrD f)) : (loadVar 47 ⟨g, 0, none⟩).run Try.prog w = .ok (.agg (arrD f)) w :=
  run_loadVar_row w g 47 47 (arrD f) (0, 0) (.array 100 3) h Try.underlying47 rfl (by rw [arrD_size]; exact (zero_of_info dir_info).2)
theorem results_cell1 {P : Program} {fn : Func} {p : Tmp} {ty : TypeId} (h : fn.results = #[.cell p ty]) {tmps : Array Value} {a : Addr} {v : Value} {w : World} (hp : tmps.getD p undef = .pointer (some a)) (hl : (loadVar ty a).run P w = .ok v w) :
    (results fn tmps).run P w = .ok v w := by
  rw [Array.getD_eq_getD_getElem?] at hp
  simp only [results, h]
  simp [hp, asAddr, hl]
set_option maxHeartbeats 4000000 in
set_option maxRecDepth 100000 in
theorem newDir_any (A : Option Addr) (cap : Nat) (xs : List LD) (w : World) (hA : LisAt w w.heap.size A cap xs) (hd : DirP xs) {n : Nat} (hn : xs.length = n) :
    Calls Try.prog 29 #[.slice A n cap] w fun e w' => e = .returned (.agg (arrT xs)) ∧ Below w.heap.size w w' := by
  have HA := Lib.hid hA
  have hle := hA.le
  have hmx := hA.most
  unfold maxLen at hmx
  clear hA
  have HN := Lib.hid hn
  have HD := Lib.hid hd
  rw [hn] at hle
  clear hn hd
  have z47 := (zero_of_info dir_info).1
  go_enter Try.func29, Try.ntmps29
  go_wp2
  clear z47
  obtain ⟨W0, HW0⟩ : ∃ W, Hid ((w.alloc (.cells (arrD fun x => 0) 47)).alloc (.cells (arrD fun x => 0) 47) = W) := ⟨_, rfl⟩
  have HR0 : Hid (Blk W0 w.heap.size 47 (arrD fun _ => 0)) := by rw [← HW0.out]; exact (Blk.new w _ _).alloc _
  have HD0 : Hid (Blk W0 (w.heap.size + 1) 47 (arrD (fillF 0))) := by
    rw [← HW0.out, fillF_zero]
    have := Blk.new (w.alloc (.cells (arrD fun _ => 0) 47)) 47 (arrD fun _ => 0)
    rwa [World.size_alloc] at this
  have HB0 : Hid (Below w.heap.size w W0) := by rw [← HW0.out]; exact ((Below.refl _ w).alloc (Nat.le_refl _) _).alloc (by rw [World.size_alloc]; omega) _
  rw [HW0.out]
  go_loopw [7] (fun i wr => ∃ k : Nat, k ≤ 100 ∧ i = .int .i64 (k : Int) ∧ Hid (Blk wr w.heap.size 47 (arrD fun _ => 0)) ∧ Hid (Blk wr (w.heap.size + 1) 47 (arrD (fillF k))) ∧ Hid (Below w.heap.size w wr)) (fun i _ => 100 - (intOf i).toNat)
  case atStart => exact ⟨0, Nat.zero_le _, rfl, HR0, HD0, HB0⟩
  case round =>
    obtain ⟨k, hk, rfl, HR, HDD, HB⟩ := hrel
    by_cases hlt : k < 100
    · have c0 := arr_cell HDD.out k hlt
      have f0 := blk_frozen HDD.out k
      have hk0 : (0 : Int) ≤ (k : Int) := by omega
      have hki : (k : Int) < 100 := by omega
      have HDD2 : Hid (Blk (wr.setCell ⟨w.heap.size + 1, k, none⟩ (.int .i64 (-1))) (w.heap.size + 1) 47 (arrD (fillF (k + 1)))) := by
        rw [← fillF_succ]; exact Blk.setOwn HDD.out k (.int .i64 (-1))
      have HR2 : Hid (Blk (wr.setCell ⟨w.heap.size + 1, k, none⟩ (.int .i64 (-1))) w.heap.size 47 (arrD fun _ => 0)) := HR.out.setOther (by show w.heap.size + 1 ≠ w.heap.size; omega) _
      have HB2 : Hid (Below w.heap.size w (wr.setCell ⟨w.heap.size + 1, k, none⟩ (.int .i64 (-1)))) := HB.out.setCell (p := ⟨w.heap.size + 1, k, none⟩) (by show w.heap.size ≤ w.heap.size + 1; omega) _
      go_wp2
      go_roundw
      case rel => exact ⟨k + 1, by omega, by go_num, HR2, HDD2, HB2⟩
      case measure => simp [intOf]; omega
    · have hkn : k = 100 := by omega
      subst hkn
      have HDE : Hid (Blk wr (w.heap.size + 1) 47 (arrT (xs.take 0))) := by
        rw [List.take_zero, arrT_nil, ← fillF_all]; exact HDD.out
      go_wp2
      go_loopw [15] (fun i wx => ∃ k : Nat, k ≤ n ∧ i = .int .i64 (k : Int) ∧ Hid (Blk wx w.heap.size 47 (arrD fun _ => 0)) ∧ Hid (Blk wx (w.heap.size + 1) 47 (arrT (xs.take k))) ∧ Hid (Below w.heap.size w wx)) (fun i _ => n - (intOf i).toNat)
      case atStart => exact ⟨0, Nat.zero_le _, rfl, HR, HDE, HB⟩
      case round =>
        clear HDE HDD HB HR
        obtain ⟨k, hk, rfl, HR, HDD, HB⟩ := hrel
        by_cases hlt : k < n
        · have hkz : k < xs.length := by rw [HN.out]; exact hlt
          have HAr := Lib.hid (HA.out.belowS HB.out)
          obtain ⟨b, o, rfl⟩ := HAr.out.row.some_ (by omega)
          obtain ⟨c0, c1⟩ := lis_cells HAr.out.row k hkz
          have hok := HD.out.ok _ (lth_mem xs k hkz)
          have HST := Lib.hid (arrT_step HD.out k hkz)
          obtain ⟨m, hm⟩ : ∃ m : Nat, Hid ((lth xs k).n = (m : Int)) := ⟨(lth xs k).n.toNat, by show _ = _; omega⟩
          obtain ⟨vt, HRT⟩ : ∃ x, Hid ((lth xs k).t = x) := ⟨_, rfl⟩
          rw [hm.out] at c0 hok HST
          rw [HRT.out] at c1 HST
          rw [Int.toNat_natCast] at HST
          have hm0 : (0 : Int) ≤ (m : Int) := by omega
          have hmi : (m : Int) < 100 := by omega
          have hmn : m < 100 := by omega
          have hk0 : (0 : Int) ≤ (k : Int) := by omega
          have hki : (k : Int) < (n : Int) := by omega
          have hbz : w.heap.size ≤ wr.heap.size := HB.out.size
          have hbz2 : w.heap.size + 1 < wr.heap.size := HDD.out.lt
          obtain ⟨W, HW⟩ : ∃ W, Hid (wr.alloc (.cells #[.int .i64 (m : Int), .int .i64 vt] 41) = W) := ⟨_, rfl⟩
          have KA : Hid (Blk W wr.heap.size 41 #[.int .i64 (m : Int), .int .i64 vt]) := by rw [← HW.out]; exact Blk.new wr _ _
          have HBW : Hid (Below w.heap.size w W) := by rw [← HW.out]; exact HB.out.alloc hbz _
          have HRW : Hid (Blk W w.heap.size 47 (arrD fun _ => 0)) := by rw [← HW.out]; exact HR.out.alloc _
          have HDW : Hid (Blk W (w.heap.size + 1) 47 (arrT (xs.take k))) := by rw [← HW.out]; exact HDD.out.alloc _
          obtain ⟨d0, d1⟩ := lis2 KA.out
          have e0 := arr_cell HDW.out m hmn
          have f0 := blk_frozen HDW.out m
          have HD3 : Hid (Blk (W.setCell ⟨w.heap.size + 1, m, none⟩ (.int .i64 vt)) (w.heap.size + 1) 47 (arrT (xs.take (k + 1)))) := by
            rw [← HST.out]; exact Blk.setOwn HDW.out m (.int .i64 vt)
          have HR3 : Hid (Blk (W.setCell ⟨w.heap.size + 1, m, none⟩ (.int .i64 vt)) w.heap.size 47 (arrD fun _ => 0)) := HRW.out.setOther (by show w.heap.size + 1 ≠ w.heap.size; omega) _
          have HB3 : Hid (Below w.heap.size w (W.setCell ⟨w.heap.size + 1, m, none⟩ (.int .i64 vt))) := HBW.out.setCell (p := ⟨w.heap.size + 1, m, none⟩) (by show w.heap.size ≤ w.heap.size + 1; omega) _
          clear hkz hok
          go_upto_region 10 with fail
          rw [HW.out]
          go_wp2
          go_roundw
          case rel => exact ⟨k + 1, by omega, by go_num, HR3, HD3, HB3⟩
          case measure => simp [intOf]; omega
        · have hkn : k = n := by omega
          subst hkn
          have HDN : Hid (Blk wr (w.heap.size + 1) 47 (arrT xs)) := by
            have := HDD.out
            rwa [← HN.out, List.take_length] at this
          go_wp2
          refine wp_load_row 47 (.tmp 3) rfl (w.heap.size + 1) rfl 47 (arrT xs) (0, 0) (.array 100 3) HDN.out Try.underlying47 rfl (by rw [arrD_size]; exact (zero_of_info dir_info).2) ?_
          go_wp2
          rw [store_arr HR.out]
          simp only [Result.andThen]
          rw [Oper.upon_skip]
          have HB9 : Hid (Below w.heap.size w (wr.setRow w.heap.size (arrT xs))) := below_setRow HB.out (Nat.le_refl _) _
          have HR9 : Hid (Blk (wr.setRow w.heap.size (arrT xs)) w.heap.size 47 (arrT xs)) := setRow_heap _ _ _ _ _ _ HR.out
          obtain ⟨w9, HW9⟩ : ∃ W, Hid (wr.setRow w.heap.size (arrT xs) = W) := ⟨_, rfl⟩
          rw [HW9.out] at HB9 HR9 ⊢
          go_wp2
          (try simp only [Exit.inBlock, Exit.then])
          refine bodyPost_ret (v := .agg (arrT xs)) ?_ rfl ⟨rfl, HB9.out⟩
          exact results_cell1 rfl rfl (load_arr HR9.out)
end Go.Proofs.Ytjefkpjjdloodaa
