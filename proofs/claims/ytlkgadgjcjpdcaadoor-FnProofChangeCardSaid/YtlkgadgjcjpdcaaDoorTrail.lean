/- Contract of bits.TrailingZeros at the powers of two up to 16. Condition: the table of the package holds what its text lays. -/
import Derived.Test.YtlkgadgjcjpdcaaDoorWords
namespace Go.Proofs.YtlkgadgjcjpdcaaDoor
open Go.RowKit
set_option linter.unusedVariables false

/-- The cells of the table that are read. -/
structure Tab (w : World) : Prop where
  t0 : w.cell? ⟨1, 0, none⟩ = some (.int .u8 0)
  t1 : w.cell? ⟨1, 1, none⟩ = some (.int .u8 1)
  t3 : w.cell? ⟨1, 3, none⟩ = some (.int .u8 2)
  t7 : w.cell? ⟨1, 7, none⟩ = some (.int .u8 3)
  t15 : w.cell? ⟨1, 15, none⟩ = some (.int .u8 4)
theorem Tab.lt {w : World} (h : Tab w) : 1 < w.heap.size := World.block_lt_of_cell? w _ h.t0
theorem Tab.keep {w w' : World} (h : Tab w) (hk : ∀ j, w'.cell? ⟨1, j, none⟩ = w.cell? ⟨1, j, none⟩) : Tab w' :=
  ⟨(hk 0).trans h.t0, (hk 1).trans h.t1, (hk 3).trans h.t3, (hk 7).trans h.t7, (hk 15).trans h.t15⟩
theorem Tab.below {w w' : World} (h : Tab w) (hb : Below w.heap.size w w') : Tab w' := h.keep fun j => hb.cell (p := ⟨1, j, none⟩) h.lt
theorem Tab.belowAt {w w' : World} {B : Nat} (h : Tab w) (hb : Below B w w') (hB : 1 < B) : Tab w' := h.keep fun j => hb.cell (p := ⟨1, j, none⟩) hB
theorem Tab.alloc {w : World} (h : Tab w) (o : Obj) : Tab (w.alloc o) := h.keep fun j => World.cell?_alloc_lt w o _ h.lt

set_option maxHeartbeats 1000000 in
set_option maxRecDepth 100000 in
theorem tz64 (d : Nat) (w : World) (h : Tab w) (hd : d ≤ 4) :
    Calls Tryd.prog 55 #[.int .u64 ((2 ^ d : Nat) : Int)] w fun e w' => e = .returned (.int .i64 (d : Int)) ∧ w = w' := by
  obtain ⟨t0, t1, t3, t7, t15⟩ := h
  have : d = 0 ∨ d = 1 ∨ d = 2 ∨ d = 3 ∨ d = 4 := by omega
  rcases this with rfl | rfl | rfl | rfl | rfl
  · have e : IntKind.u64.wrap (bits .and .u64 1 (IntKind.u64.wrap (-1)) * 285870213051353865) / 288230376151711744 = 0 := by decide +kernel
    go_enter Tryd.func55, Tryd.ntmps55
    go_wp2
    go_ret
    exact ⟨rfl, rfl⟩
  · have e : IntKind.u64.wrap (bits .and .u64 2 (IntKind.u64.wrap (-2)) * 285870213051353865) / 288230376151711744 = 1 := by decide +kernel
    go_enter Tryd.func55, Tryd.ntmps55
    go_wp2
    go_ret
    exact ⟨rfl, rfl⟩
  · have e : IntKind.u64.wrap (bits .and .u64 4 (IntKind.u64.wrap (-4)) * 285870213051353865) / 288230376151711744 = 3 := by decide +kernel
    go_enter Tryd.func55, Tryd.ntmps55
    go_wp2
    go_ret
    exact ⟨rfl, rfl⟩
  · have e : IntKind.u64.wrap (bits .and .u64 8 (IntKind.u64.wrap (-8)) * 285870213051353865) / 288230376151711744 = 7 := by decide +kernel
    go_enter Tryd.func55, Tryd.ntmps55
    go_wp2
    go_ret
    exact ⟨rfl, rfl⟩
  · have e : IntKind.u64.wrap (bits .and .u64 16 (IntKind.u64.wrap (-16)) * 285870213051353865) / 288230376151711744 = 15 := by decide +kernel
    go_enter Tryd.func55, Tryd.ntmps55
    go_wp2
    go_ret
    exact ⟨rfl, rfl⟩

set_option maxHeartbeats 1000000 in
theorem tz_any (d : Nat) (w : World) (h : Tab w) (hd : d ≤ 4) :
    Calls Tryd.prog 37 #[.int .u64 ((2 ^ d : Nat) : Int)] w fun e w' => e = .returned (.int .i64 (d : Int)) ∧ w = w' := by
  have HT := Lib.hid h
  obtain ⟨n, HN⟩ : ∃ n : Nat, Hid (2 ^ d = n) := ⟨_, rfl⟩
  have C : Hid (Calls Tryd.prog 55 #[.int .u64 (n : Int)] w fun e w' => e = .returned (.int .i64 (d : Int)) ∧ w = w') := by
    have := tz64 d w h hd
    rw [HN.out] at this
    exact this
  rw [HN.out]
  clear h
  go_enter Tryd.func37, Tryd.ntmps37
  go_wp2_with fail
  refine C.out.mono ?_
  rintro e w' ⟨rfl, rfl⟩
  go_wp2
  go_ret
  exact ⟨rfl, rfl⟩

end Go.Proofs.YtlkgadgjcjpdcaaDoor
