/- From what a row's reading tells of a slice of bytes (IsRow) to what my contracts ask of it (In). No conditions. -/
import Derived.Test.YtgpmodidpdjhkaaOpen
namespace Go.Proofs.Ytgpmodidpdjhkaa
open Go.RowKit

/-- A slice of integers that came in: nil, or a row of cap cells with the numbers zs, each fitting its kind. -/
def IsRow (k : IntKind) (w : World) (a : Option Addr) (len cap : Nat) (zs : List Int) : Prop :=
  (a = none ∧ len = 0 ∧ cap = 0 ∧ zs = []) ∨
  ∃ x, a = some x ∧ len ≤ cap ∧ cap ≤ maxLen ∧ zs.length = cap ∧ (∀ i, i < zs.length → w.cell? (x.add i) = some (.int k (zs.getD i 0))) ∧ ∀ n ∈ zs, (Lit.int k n).wf = true

theorem byte_of_wf {n : Int} (h : (Lit.int .u8 n).wf = true) : 0 ≤ n ∧ n < 256 := by
  simp [Lit.wf, IntKind.min, IntKind.max, IntKind.bits, IntKind.signed] at h
  omega

theorem In.of_row {w : World} {a : Option Addr} {len cap : Nat} {zs : List Int} (h : IsRow .u8 w a len cap zs) : In w a len cap := by
  rcases h with ⟨rfl, rfl, rfl, rfl⟩ | ⟨x, rfl, hl, hm, hz, hc, hw⟩
  · exact ⟨fun k hk => absurd hk (by omega), Nat.le_refl _, Nat.zero_le _⟩
  · refine ⟨fun k hk => ?_, hl, hm⟩
    have hk' : k < zs.length := by omega
    have hck := hc k hk'
    obtain ⟨b, o, sp⟩ := x
    have hs := World.cell?_spot (hc 0 (by omega))
    have hs0 : sp = none := by simpa [Addr.add] using hs
    subst hs0
    have hadd : (Addr.mk b o none).add k = ⟨b, o + k, none⟩ := by
      unfold Addr.add
      by_cases h0 : k = 0
      · subst h0; simp
      · simp [h0]
    rw [hadd] at hck
    have hmem : zs.getD k 0 ∈ zs := by
      rw [List.getD_eq_getElem?_getD, List.getElem?_eq_getElem hk']
      simp
    have hwf := byte_of_wf (hw _ hmem)
    exact ⟨b, o, _, rfl, World.block_lt_of_cell? w _ hck, hck, hwf.1, hwf.2⟩

theorem In.len_le {w : World} {a : Option Addr} {len cap : Nat} (h : In w a len cap) : len ≤ maxLen := Nat.le_trans h.le h.most

end Go.Proofs.Ytgpmodidpdjhkaa
