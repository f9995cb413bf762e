/- Contracts of the program's DirectorySweep and DirectoryPut: they answer as the data say, in memory of the call's own. Condition: the nodes lie in memory. -/
import Derived.Test.YtjefkpjjdloodaaDirPutA
import Derived.Test.YtjefkpjjdloodaaDirNew
namespace Go.Proofs.Ytjefkpjjdloodaa
open Go.RowKit
set_option linter.unusedVariables false
set_option maxHeartbeats 4000000 in
set_option maxRecDepth 100000 in
theorem dirSweep_any (A : Option Addr) (cap : Nat) (xs : List LD) (now : Int) (w : World) (hA : LisAt w w.heap.size A cap xs) {n : Nat} (hn : xs.length = n) :
    Calls Try.prog 17 #[.slice A n cap, .int .i64 now] w (RetLis w (sweepR xs now)) := by
  have HA := Lib.hid hA
  have HN := Lib.hid hn
  have CV := Lib.hid (dirValid_any A cap xs w hA hn)
  clear hA hn
  cases hd : dirB xs with
  | false =>
    have HR : Hid (sweepR xs now = []) := sweepR_no (by rw [hd]; rfl)
    rw [hd] at CV
    rw [HR.out]
    clear hd
    go_enter Try.func17, Try.ntmps17
    go_wp2_with fail
    refine CV.out.mono ?_
    rintro e w1 ⟨rfl, hb1⟩
    have HB1 := Lib.hid hb1
    have hbz := hb1.size
    clear hb1
    have HB2 : Hid (Below w.heap.size w (w1.alloc (.cells #[] 41))) := HB1.out.alloc hbz _
    have HO2 : Hid (OwnRow LK (w1.alloc (.cells #[] 41)) w.heap.size (some ⟨w1.heap.size, 0, none⟩) 0 []) := (OwnRow.new LK w1).base_le hbz
    go_wp2
    go_ret
    exact ⟨_, _, rfl, HO2.out, HB2.out⟩
  | true =>
    rw [hd] at CV
    have HD := Lib.hid (dirP_of hd)
    cases ht : tOk now with
    | false =>
      have HR : Hid (sweepR xs now = []) := sweepR_no (by rw [hd, ht]; rfl)
      rw [HR.out]
      have CT := Lib.hid (fun W => timeValid_any now W)
      rw [ht] at CT
      clear hd ht
      go_enter Try.func17, Try.ntmps17
      go_wp2_with fail
      refine CV.out.mono ?_
      rintro e w1 ⟨rfl, hb1⟩
      have HB1 := Lib.hid hb1
      have hbz := hb1.size
      clear hb1
      go_wp2_with fail
      refine (CT.out w1).mono ?_
      rintro e w2 ⟨rfl, hw2⟩
      rw [hw2]
      clear hw2
      have HB2 : Hid (Below w.heap.size w (w1.alloc (.cells #[] 41))) := HB1.out.alloc hbz _
      have HO2 : Hid (OwnRow LK (w1.alloc (.cells #[] 41)) w.heap.size (some ⟨w1.heap.size, 0, none⟩) 0 []) := (OwnRow.new LK w1).base_le hbz
      go_wp2
      go_ret
      exact ⟨_, _, rfl, HO2.out, HB2.out⟩
    | true =>
      have HR : Hid (sweepR xs now = sweepL now xs) := sweepR_ok hd ht
      have HT := Lib.hid ((tOk_iff now).1 ht)
      have HDS := Lib.hid (HD.out.sub (sweep_sub now xs))
      rw [HR.out]
      have CT := Lib.hid (fun W => timeValid_any now W)
      rw [ht] at CT
      clear hd ht
      have z47 := (zero_of_info dir_info).1
      go_enter Try.func17, Try.ntmps17
      go_wp2_with fail
      refine CV.out.mono ?_
      rintro e w1 ⟨rfl, hb1⟩
      have HB1 := Lib.hid hb1
      have hbz := hb1.size
      clear hb1
      go_wp2_with fail
      refine (CT.out w1).mono ?_
      rintro e w2 ⟨rfl, hw2⟩
      rw [hw2]
      clear hw2
      go_wp2_with fail
      refine (newDir_any A cap xs w1 (HA.out.belowS HB1.out) HD.out HN.out).mono ?_
      rintro e w3 ⟨rfl, hb3⟩
      have HB3 : Hid (Below w.heap.size w w3) := HB1.out.trans (hb3.mono hbz)
      have hbz3 : w.heap.size ≤ w3.heap.size := HB3.out.size
      clear hb3
      go_wp2
      rw [store_arr (f := tmF xs) (Blk.new w3 47 (arrD fun _ => 0)), World.setRow_alloc_new]
      simp only [Result.andThen]
      rw [Oper.upon_skip]
      obtain ⟨w4, HW4⟩ : ∃ W, Hid (w3.alloc (.cells (arrT xs) 47) = W) := ⟨_, rfl⟩
      have HA4 : Hid (DirAt w4 w3.heap.size xs) := by rw [← HW4.out]; exact Blk.new w3 _ _
      have HB4 : Hid (Below w.heap.size w w4) := by rw [← HW4.out]; exact HB3.out.alloc hbz3 _
      rw [HW4.out]
      clear z47
      go_wp2_with fail
      refine (sweep_any w.heap.size w3.heap.size xs now w4 HA4.out HD.out HT.out.1 hbz3).mono ?_
      rintro e w5 ⟨rfl, hA5, hb5⟩
      have HB5 : Hid (Below w.heap.size w w5) := HB4.out.trans hb5
      have HA5 := Lib.hid hA5
      have hbz5 : w.heap.size ≤ w5.heap.size := HB5.out.size
      clear hA5 hb5
      go_wp2_with fail
      refine (list_any w3.heap.size _ w5 HA5.out HDS.out).mono ?_
      rintro e w6 ⟨A6, c6, rfl, ho6, hb6⟩
      have HB6 : Hid (Below w.heap.size w w6) := HB5.out.trans (hb6.mono hbz5)
      have HO6 := Lib.hid (ho6.base_le hbz5)
      clear ho6 hb6
      go_wp2
      go_ret
      exact ⟨_, _, rfl, HO6.out, HB6.out⟩

set_option maxHeartbeats 4000000 in
set_option maxRecDepth 100000 in
theorem dirPut_any (A : Option Addr) (cap : Nat) (xs : List LD) (node now : Int) (w : World) (hA : LisAt w w.heap.size A cap xs) {n : Nat} (hn : xs.length = n) :
    Calls Try.prog 13 #[.slice A n cap, .int .i64 node, .int .i64 now] w (RetLisB w (putL xs node now) (putO xs node now)) := by
  have HA := Lib.hid hA
  have HN := Lib.hid hn
  have CV := Lib.hid (dirValid_any A cap xs w hA hn)
  have CN := Lib.hid (fun W => nodeValid_any node W)
  have CT := Lib.hid (fun W => timeValid_any now W)
  clear hA hn
  cases hi : putIn xs node now with
  | false =>
    have HR : Hid (putL xs node now = []) := putL_no hi
    have HO : Hid (putO xs node now = false) := putO_no hi
    rw [HR.out, HO.out]
    cases hd : dirB xs with
    | false =>
      rw [hd] at CV
      clear hd hi
      go_enter Try.func13, Try.ntmps13
      go_wp2_with fail
      refine CV.out.mono ?_
      rintro e w1 ⟨rfl, hb1⟩
      have HB1 := Lib.hid hb1
      have hbz := hb1.size
      clear hb1
      have HB2 : Hid (Below w.heap.size w (w1.alloc (.cells #[] 41))) := HB1.out.alloc hbz _
      have HO2 : Hid (OwnRow LK (w1.alloc (.cells #[] 41)) w.heap.size (some ⟨w1.heap.size, 0, none⟩) 0 []) := (OwnRow.new LK w1).base_le hbz
      go_wp2
      go_ret2
      exact ⟨_, _, rfl, HO2.out, HB2.out⟩
    | true =>
      rw [hd] at CV
      cases hnd : nOk node with
      | false =>
        rw [hnd] at CN
        clear hd hi hnd
        go_enter Try.func13, Try.ntmps13
        go_wp2_with fail
        refine CV.out.mono ?_
        rintro e w1 ⟨rfl, hb1⟩
        have HB1 := Lib.hid hb1
        have hbz := hb1.size
        clear hb1
        go_wp2_with fail
        refine (CN.out w1).mono ?_
        rintro e w2 ⟨rfl, hw2⟩
        rw [hw2]
        clear hw2
        have HB2 : Hid (Below w.heap.size w (w1.alloc (.cells #[] 41))) := HB1.out.alloc hbz _
        have HO2 : Hid (OwnRow LK (w1.alloc (.cells #[] 41)) w.heap.size (some ⟨w1.heap.size, 0, none⟩) 0 []) := (OwnRow.new LK w1).base_le hbz
        go_wp2
        go_ret2
        exact ⟨_, _, rfl, HO2.out, HB2.out⟩
      | true =>
        have ht : tOk now = false := by
          unfold putIn at hi
          rw [hd, hnd] at hi
          simpa using hi
        rw [hnd] at CN
        rw [ht] at CT
        clear hd hi hnd ht
        go_enter Try.func13, Try.ntmps13
        go_wp2_with fail
        refine CV.out.mono ?_
        rintro e w1 ⟨rfl, hb1⟩
        have HB1 := Lib.hid hb1
        have hbz := hb1.size
        clear hb1
        go_wp2_with fail
        refine (CN.out w1).mono ?_
        rintro e w2 ⟨rfl, hw2⟩
        rw [hw2]
        clear hw2
        go_wp2_with fail
        refine (CT.out w1).mono ?_
        rintro e w2 ⟨rfl, hw2⟩
        rw [hw2]
        clear hw2
        have HB2 : Hid (Below w.heap.size w (w1.alloc (.cells #[] 41))) := HB1.out.alloc hbz _
        have HO2 : Hid (OwnRow LK (w1.alloc (.cells #[] 41)) w.heap.size (some ⟨w1.heap.size, 0, none⟩) 0 []) := (OwnRow.new LK w1).base_le hbz
        go_wp2
        go_ret2
        exact ⟨_, _, rfl, HO2.out, HB2.out⟩
  | true =>
    have hq := (putIn_iff xs node now).1 hi
    have HD := Lib.hid hq.1
    have hd : dirB xs = true := dirB_of hq.1
    have hnd : nOk node = true := (nOk_iff node).2 hq.2.1
    have ht : tOk now = true := (tOk_iff now).2 hq.2.2
    rw [hd] at CV
    rw [hnd] at CN
    rw [ht] at CT
    have HI := Lib.hid hi
    have HDP := Lib.hid (put_dir hi)
    clear hd hi hnd ht hq
    have z47 := (zero_of_info dir_info).1
    go_enter Try.func13, Try.ntmps13
    go_wp2_with fail
    refine CV.out.mono ?_
    rintro e w1 ⟨rfl, hb1⟩
    have HB1 := Lib.hid hb1
    have hbz := hb1.size
    clear hb1
    go_wp2_with fail
    refine (CN.out w1).mono ?_
    rintro e w2 ⟨rfl, hw2⟩
    rw [hw2]
    clear hw2
    go_wp2_with fail
    refine (CT.out w1).mono ?_
    rintro e w2 ⟨rfl, hw2⟩
    rw [hw2]
    clear hw2
    go_wp2_with fail
    refine (newDir_any A cap xs w1 (HA.out.belowS HB1.out) HD.out HN.out).mono ?_
    rintro e w3 ⟨rfl, hb3⟩
    have HB3 : Hid (Below w.heap.size w w3) := HB1.out.trans (hb3.mono hbz)
    have hbz3 : w.heap.size ≤ w3.heap.size := HB3.out.size
    clear hb3
    go_wp2
    rw [store_arr (f := tmF xs) (Blk.new w3 47 (arrD fun _ => 0)), World.setRow_alloc_new]
    simp only [Result.andThen]
    rw [Oper.upon_skip]
    obtain ⟨w4, HW4⟩ : ∃ W, Hid (w3.alloc (.cells (arrT xs) 47) = W) := ⟨_, rfl⟩
    have HA4 : Hid (DirAt w4 w3.heap.size xs) := by rw [← HW4.out]; exact Blk.new w3 _ _
    have HB4 : Hid (Below w.heap.size w w4) := by rw [← HW4.out]; exact HB3.out.alloc hbz3 _
    rw [HW4.out]
    clear z47
    go_wp2_with fail
    refine (put_any w.heap.size w3.heap.size xs node now w4 HA4.out HI.out hbz3).mono ?_
    rintro e w5 ⟨rfl, hA5, hb5⟩
    have HB5 : Hid (Below w.heap.size w w5) := HB4.out.trans hb5
    have HA5 := Lib.hid hA5
    have hbz5 : w.heap.size ≤ w5.heap.size := HB5.out.size
    clear hA5 hb5
    go_wp2_with fail
    refine (list_any w3.heap.size _ w5 HA5.out HDP.out).mono ?_
    rintro e w6 ⟨A6, c6, rfl, ho6, hb6⟩
    have HB6 : Hid (Below w.heap.size w w6) := HB5.out.trans (hb6.mono hbz5)
    have HO6 := Lib.hid (ho6.base_le hbz5)
    clear ho6 hb6
    go_wp2
    go_ret2
    exact ⟨_, _, rfl, HO6.out, HB6.out⟩
end Go.Proofs.Ytjefkpjjdloodaa
