/- Contract of l6Open: it makes a reader at place 0 over at most 2000 bytes of the code, and changes nothing that was there. Condition: the code's bytes lie in memory. -/
import Derived.Test.YtgpmodidpdjhkaaPick
namespace Go.Proofs.Ytgpmodidpdjhkaa
open Go.RowKit

/-- What is known of a slice of bytes that came in. -/
structure In (w : World) (A : Option Addr) (len cap : Nat) : Prop where
  bytes : BytesAt w w.heap.size A len
  le : len ≤ cap
  most : cap ≤ maxLen

def Opened (w : World) (A : Option Addr) (e : Ending) (w' : World) : Prop :=
  ∃ len' cap', e = .returned (.pointer (some ⟨w.heap.size, 0, none⟩)) ∧ Rd w' w.heap.size w.heap.size A len' cap' 0 ∧ Below w.heap.size w w'

theorem Opened.mk {w : World} {A : Option Addr} (len cap : Nat) (hb : BytesAt w w.heap.size A len) (hl : len ≤ 2000) {e : Ending} (he : e = .returned (.pointer (some ⟨w.heap.size, 0, none⟩))) :
    Opened w A e (w.alloc (.cells #[.slice A len cap, .int .i64 0] 95)) := by
  refine ⟨len, cap, he, ⟨heap_alloc_new w _, Nat.le_refl _, hl, fun k hk => ?_⟩, (Below.refl _ _).alloc (Nat.le_refl _) _⟩
  obtain ⟨b, o, z, hA, hb', hc, h0, h1⟩ := hb k hk
  exact ⟨b, o, z, hA, hb', (World.cell?_of_block (a := ⟨b, o + k, none⟩) (Below.heap_alloc w _ b hb')).trans hc, h0, h1⟩

set_option maxHeartbeats 400000 in
theorem open_small (A : Option Addr) (len cap : Nat) (w : World) (hI : In w A len cap) (hs : len ≤ 2000) :
    Calls Try.prog 35 #[.slice A len cap] w (Opened w A) := by
  have hb := Lib.hid hI.bytes
  clear hI
  go_enter Try.func35, Try.ntmps35
  go_wp2
  go_ret
  exact Opened.mk len cap hb.out hs rfl

set_option maxHeartbeats 400000 in
theorem open_large (A : Option Addr) (len cap : Nat) (w : World) (hI : In w A len cap) (hs : 2000 < len) :
    Calls Try.prog 35 #[.slice A len cap] w (Opened w A) := by
  have hB : BytesAt w w.heap.size A 2000 := fun k hk => hI.bytes k (by omega)
  obtain ⟨b, o, z, rfl, hbb, _⟩ := hB 0 (by omega)
  have hb := Lib.hid hB
  have hle := hI.le
  have hm := hI.most
  unfold maxLen at hm
  clear hI hB
  go_enter Try.func35, Try.ntmps35
  go_wp2
  go_ret
  exact Opened.mk 2000 cap hb.out (by omega) rfl

theorem open_any (A : Option Addr) (len cap : Nat) (w : World) (hI : In w A len cap) :
    Calls Try.prog 35 #[.slice A len cap] w (Opened w A) := by
  by_cases hs : len ≤ 2000
  · exact open_small A len cap w hI hs
  · exact open_large A len cap w hI (by omega)

end Go.Proofs.Ytgpmodidpdjhkaa
