/- The four package errors in memory, and the contract of headCode at each of them and at nil. Condition: the globals hold four different pointers. -/
import Derived.Test.YtlpdoieiiadhhaaDoorErrIs
import Derived.Test.YtlpdoieiiadhhaaDoorBaseA
namespace Go.Proofs.YtlpdoieiiadhhaaDoor
open Go.RowKit
set_option linter.unusedVariables false
set_option maxRecDepth 100000

/-- The row of an error's text. -/
def ErrRow (w : World) (a : Addr) : Prop := ∃ c t, w.heap[a.block]? = some (.cells c t (0, 0))

structure Errs (w : World) (a0 a1 a2 a3 : Addr) : Prop where
  g0 : w.cell? ⟨0, 0, none⟩ = some (errV a0)
  g1 : w.cell? ⟨1, 0, none⟩ = some (errV a1)
  g2 : w.cell? ⟨2, 0, none⟩ = some (errV a2)
  g3 : w.cell? ⟨3, 0, none⟩ = some (errV a3)
  r0 : ErrRow w a0
  r1 : ErrRow w a1
  r2 : ErrRow w a2
  r3 : ErrRow w a3
  n01 : a0 ≠ a1
  n02 : a0 ≠ a2
  n03 : a0 ≠ a3
  n12 : a1 ≠ a2
  n13 : a1 ≠ a3
  n23 : a2 ≠ a3

theorem is_not {w : World} {a b : Addr} (hne : a ≠ b) (ha : ErrRow w a) (hb : ErrRow w b) : Calls Tryd.prog 89 #[errV a, errV b] w fun e w' => e = .returned (.bool false) ∧ w' = w := by
  obtain ⟨ca, ta, ha⟩ := ha
  obtain ⟨cb, tb, hb⟩ := hb
  exact is_other a b ca cb ta tb w hne ha hb

theorem headCode_nil {w : World} {a0 a1 a2 a3 : Addr} (h : Errs w a0 a1 a2 a3) :
    Calls Tryd.prog 43 #[.nilIface] w fun e w' => e = .returned (.int .i64 0) ∧ w = w' := by
  have H := Lib.hid h
  obtain ⟨g0, g1, g2, g3, -, -, -, -, -, -, -, -, -, -⟩ := h
  go_enter Tryd.func43, Tryd.ntmps43
  go_wp2_with fail
  refine (is_nil a0 _).mono ?_
  rintro e w2 ⟨rfl, rfl⟩
  go_wp2_with fail
  refine (is_nil a1 _).mono ?_
  rintro e w2 ⟨rfl, rfl⟩
  go_wp2_with fail
  refine (is_nil a2 _).mono ?_
  rintro e w2 ⟨rfl, rfl⟩
  go_wp2_with fail
  refine (is_nil a3 _).mono ?_
  rintro e w2 ⟨rfl, rfl⟩
  go_wp2
  go_ret
  exact ⟨rfl, rfl⟩

theorem headCode_0 {w : World} {a0 a1 a2 a3 : Addr} (h : Errs w a0 a1 a2 a3) :
    Calls Tryd.prog 43 #[errV a0] w fun e w' => e = .returned (.int .i64 1) ∧ w = w' := by
  have H := Lib.hid h
  obtain ⟨g0, g1, g2, g3, -, -, -, -, -, -, -, -, -, -⟩ := h
  go_enter Tryd.func43, Tryd.ntmps43
  go_wp2_with fail
  refine (is_same a0 _).mono ?_
  rintro e w2 ⟨rfl, rfl⟩
  go_wp2
  go_ret
  exact ⟨rfl, rfl⟩

theorem headCode_1 {w : World} {a0 a1 a2 a3 : Addr} (h : Errs w a0 a1 a2 a3) :
    Calls Tryd.prog 43 #[errV a1] w fun e w' => e = .returned (.int .i64 2) ∧ w = w' := by
  have H := Lib.hid h
  obtain ⟨g0, g1, g2, g3, -, -, -, -, -, -, -, -, -, -⟩ := h
  go_enter Tryd.func43, Tryd.ntmps43
  go_wp2_with fail
  refine (is_not H.out.n01.symm H.out.r1 H.out.r0).mono ?_
  rintro e w2 ⟨rfl, rfl⟩
  go_wp2_with fail
  refine (is_same a1 _).mono ?_
  rintro e w2 ⟨rfl, rfl⟩
  go_wp2
  go_ret
  exact ⟨rfl, rfl⟩

theorem headCode_2 {w : World} {a0 a1 a2 a3 : Addr} (h : Errs w a0 a1 a2 a3) :
    Calls Tryd.prog 43 #[errV a2] w fun e w' => e = .returned (.int .i64 3) ∧ w = w' := by
  have H := Lib.hid h
  obtain ⟨g0, g1, g2, g3, -, -, -, -, -, -, -, -, -, -⟩ := h
  go_enter Tryd.func43, Tryd.ntmps43
  go_wp2_with fail
  refine (is_not H.out.n02.symm H.out.r2 H.out.r0).mono ?_
  rintro e w2 ⟨rfl, rfl⟩
  go_wp2_with fail
  refine (is_not H.out.n12.symm H.out.r2 H.out.r1).mono ?_
  rintro e w2 ⟨rfl, rfl⟩
  go_wp2_with fail
  refine (is_same a2 _).mono ?_
  rintro e w2 ⟨rfl, rfl⟩
  go_wp2
  go_ret
  exact ⟨rfl, rfl⟩

theorem headCode_3 {w : World} {a0 a1 a2 a3 : Addr} (h : Errs w a0 a1 a2 a3) :
    Calls Tryd.prog 43 #[errV a3] w fun e w' => e = .returned (.int .i64 4) ∧ w = w' := by
  have H := Lib.hid h
  obtain ⟨g0, g1, g2, g3, -, -, -, -, -, -, -, -, -, -⟩ := h
  go_enter Tryd.func43, Tryd.ntmps43
  go_wp2_with fail
  refine (is_not H.out.n03.symm H.out.r3 H.out.r0).mono ?_
  rintro e w2 ⟨rfl, rfl⟩
  go_wp2_with fail
  refine (is_not H.out.n13.symm H.out.r3 H.out.r1).mono ?_
  rintro e w2 ⟨rfl, rfl⟩
  go_wp2_with fail
  refine (is_not H.out.n23.symm H.out.r3 H.out.r2).mono ?_
  rintro e w2 ⟨rfl, rfl⟩
  go_wp2_with fail
  refine (is_same a3 _).mono ?_
  rintro e w2 ⟨rfl, rfl⟩
  go_wp2
  go_ret
  exact ⟨rfl, rfl⟩

end Go.Proofs.YtlpdoieiiadhhaaDoor
