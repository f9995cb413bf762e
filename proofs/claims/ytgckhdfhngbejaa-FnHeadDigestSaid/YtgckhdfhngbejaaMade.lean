/- HeadMake and its model at any numbers and leaves: one contract each. Conditions: the leaves lie in memory. -/
import Derived.Test.YtgckhdfhngbejaaMake
namespace Go.Proofs.Ytgckhdfhngbejaa
open Go.RowKit
set_option linter.unusedVariables false

def madeOk (s : Int) (zs : List Int) : Bool := keyB s && leavesB zs
def madeL (s : Int) (zs : List Int) : Int := if madeOk s zs = true then zs.length else 0
def madeD (s : Int) (zs : List Int) : Int := if madeOk s zs = true then digestZ zs else 0
def madeS (s : Int) (zs : List Int) : Int := if madeOk s zs = true then signZ s (msgZ zs.length (digestZ zs)) else 0
theorem madeOk_iff (s : Int) (zs : List Int) : madeOk s zs = true ↔ (1 ≤ s ∧ s < 997) ∧ leavesB zs = true := by unfold madeOk; rw [Bool.and_eq_true, keyB_iff]
theorem made_yes {s : Int} {zs : List Int} (h : madeOk s zs = true) : madeL s zs = zs.length ∧ madeD s zs = digestZ zs ∧ madeS s zs = signZ s (msgZ zs.length (digestZ zs)) := by
  unfold madeL madeD madeS; rw [if_pos h, if_pos h, if_pos h]; exact ⟨rfl, rfl, rfl⟩
theorem made_no {s : Int} {zs : List Int} (h : ¬ madeOk s zs = true) : madeL s zs = 0 ∧ madeD s zs = 0 ∧ madeS s zs = 0 := by
  unfold madeL madeD madeS; rw [if_neg h, if_neg h, if_neg h]; exact ⟨rfl, rfl, rfl⟩
theorem leaves_digest {zs : List Int} (h : leavesB zs = true) : zs.length ≤ 16 ∧ Digs zs ∧ 0 ≤ digestZ zs ∧ digestZ zs < 991 := by
  obtain ⟨h16, hd⟩ := leavesB_yes h
  obtain ⟨a, b⟩ := foldZ_bd zs.length (coverZ zs 0) (by omega) (by omega)
  exact ⟨h16, hd, a, b⟩
/-- Where numbers of a head may lie. -/
theorem made_bd (s : Int) (zs : List Int) : (0 ≤ madeL s zs ∧ madeL s zs ≤ 16) ∧ (0 ≤ madeD s zs ∧ madeD s zs < 991) ∧ (0 ≤ madeS s zs ∧ madeS s zs < 997) := by
  by_cases h : madeOk s zs = true
  · obtain ⟨e1, e2, e3⟩ := made_yes h
    obtain ⟨hs, hv⟩ := (madeOk_iff _ _).1 h
    obtain ⟨h16, _, h0, h1⟩ := leaves_digest hv
    rw [e1, e2, e3]
    have := signZ_bd s zs.length (digestZ zs) hs
    exact ⟨by omega, by omega, by omega⟩
  · obtain ⟨e1, e2, e3⟩ := made_no h
    rw [e1, e2, e3]; omega

theorem make_any (s : Int) (zs : List Int) (b o cap : Nat) (w : World) (hI : IntsAt w w.heap.size (some ⟨b, o, none⟩) zs) (hcap : zs.length ≤ cap) (hmax : cap ≤ maxLen) :
    Calls Try.prog 14 #[.int .i64 s, .slice (some ⟨b, o, none⟩) zs.length cap] w fun e w' => e = .returned (.tuple #[headV (madeL s zs) (madeD s zs) (madeS s zs), .bool (madeOk s zs)]) ∧ Below w.heap.size w w' := by
  by_cases h : madeOk s zs = true
  · obtain ⟨e1, e2, e3⟩ := made_yes h
    obtain ⟨hs, hv⟩ := (madeOk_iff _ _).1 h
    rw [e1, e2, e3, h]
    exact make_yes s zs b o cap w hs.1 hs.2 hv hI hcap hmax
  · obtain ⟨e1, e2, e3⟩ := made_no h
    rw [e1, e2, e3, show madeOk s zs = false from Bool.eq_false_iff.2 h]
    exact make_no s zs _ cap w (fun k => h ((madeOk_iff _ _).2 k)) hI (Nat.le_trans hcap hmax)

theorem smake_any (s : Int) (zs : List Int) (b o cap : Nat) (w : World) (hI : IntsAt w w.heap.size (some ⟨b, o, none⟩) zs) (hcap : zs.length ≤ cap) (hmax : cap ≤ maxLen) :
    Calls Try.prog 15 #[.int .i64 s, .slice (some ⟨b, o, none⟩) zs.length cap] w fun e w' => e = .returned (.tuple #[headV (madeL s zs) (madeD s zs) (madeS s zs), .bool (madeOk s zs)]) ∧ Below w.heap.size w w' := by
  by_cases h : madeOk s zs = true
  · obtain ⟨e1, e2, e3⟩ := made_yes h
    obtain ⟨hs, hv⟩ := (madeOk_iff _ _).1 h
    rw [e1, e2, e3, h]
    exact smake_yes s zs b o cap w hs.1 hs.2 hv hI hcap hmax
  · obtain ⟨e1, e2, e3⟩ := made_no h
    rw [e1, e2, e3, show madeOk s zs = false from Bool.eq_false_iff.2 h]
    exact smake_no s zs _ cap w (fun k => h ((madeOk_iff _ _).2 k)) hI (Nat.le_trans hcap hmax)

end Go.Proofs.Ytgckhdfhngbejaa
