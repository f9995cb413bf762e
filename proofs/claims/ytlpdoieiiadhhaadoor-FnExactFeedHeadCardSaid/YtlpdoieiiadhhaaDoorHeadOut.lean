/- Contracts of FeedHead, of its model and of sameFeed with the lengths named, as the walks of the head's laws use them. -/
import Derived.Test.YtlpdoieiiadhhaaDoorDrawHead
import Derived.Test.YtlpdoieiiadhhaaDoorFeedHead
import Derived.Test.YtlpdoieiiadhhaaDoorSFeedHead
import Derived.Test.YtlpdoieiiadhhaaDoorBaseL
import Derived.Test.YtlpdoieiiadhhaaDoorBaseD
import Derived.Deep.DeepCutAuto
namespace Go.Proofs.YtlpdoieiiadhhaaDoor
open Go.RowKit
set_option linter.unusedVariables false

def HeadOut (w : World) (p l d s : Int) (bs : List ByteArray) (hs : List Bool) (m n : Nat) (c : Int) (e : Ending) (w' : World) : Prop :=
  ∃ A1 c1 A2 c2, e = .returned (.tuple #[feedV p l d s A1 m c1 A2 n c2, .int .i64 c]) ∧ OwnFeed w' w.heap.size A1 c1 A2 c2 bs hs ∧ Below w.heap.size w w'
theorem headRet_out {w : World} {p l d s : Int} {bs : List ByteArray} {hs : List Bool} {m n : Nat} {c : Int} {e : Ending} {w' : World} (hm : bs.length = m) (hn : hs.length = n) (h : HeadRet w ⟨p, l, d, s, bs, hs⟩ c e w') : HeadOut w p l d s bs hs m n c e w' := by
  subst hm; subst hn; exact h
theorem feedHead_n {a0 a1 a2 a3 : Addr} (p l d s : Int) (A1 : Option Addr) (c1 : Nat) (A2 : Option Addr) (c2 : Nat) (bs : List ByteArray) (hs : List Bool) (hl hd ht : Int) (X : Option Addr) (cz : Nat) (zs : List Int) (w : World) (hE : Errs w a0 a1 a2 a3) (hG : GrowthAt w X cz zs) (hF : FeedAt w w.heap.size A1 A2 bs hs)
    {nb nh ng mb mh : Nat} (h1 : bs.length = nb) (h2 : hs.length = nh) (h3 : zs.length = ng) {op ol od os : Int} {obs : List ByteArray} {ohs : List Bool} (hO : headF ⟨p, l, d, s, bs, hs⟩ hl hd ht zs = ⟨op, ol, od, os, obs, ohs⟩) (h4 : obs.length = mb) (h5 : ohs.length = mh) {C : Int} (hC : codeZ ⟨p, l, d, s, bs, hs⟩ hl hd ht zs = C) :
    Calls Tryd.prog 12 #[feedV p l d s A1 nb c1 A2 nh c2, headV hl hd ht, .slice X ng cz] w (HeadOut w op ol od os obs ohs mb mh C) := by
  have h := feedHead_any p l d s A1 c1 A2 c2 bs hs hl hd ht X cz zs w hE hG hF
  rw [h1, h2, h3, hO, hC] at h
  exact h.mono fun e w' k => headRet_out h4 h5 k
theorem sfeedHead_n (p l d s : Int) (A1 : Option Addr) (c1 : Nat) (A2 : Option Addr) (c2 : Nat) (bs : List ByteArray) (hs : List Bool) (hl hd ht : Int) (X : Option Addr) (cz : Nat) (zs : List Int) (w : World) (hG : GrowthAt w X cz zs) (hF : FeedAt w w.heap.size A1 A2 bs hs) (hn1 : A1 = none → c1 = 0) (hn2 : A2 = none → c2 = 0)
    {nb nh ng mb mh : Nat} (h1 : bs.length = nb) (h2 : hs.length = nh) (h3 : zs.length = ng) {op ol od os : Int} {obs : List ByteArray} {ohs : List Bool} (hO : headF ⟨p, l, d, s, bs, hs⟩ hl hd ht zs = ⟨op, ol, od, os, obs, ohs⟩) (h4 : obs.length = mb) (h5 : ohs.length = mh) {C : Int} (hC : codeZ ⟨p, l, d, s, bs, hs⟩ hl hd ht zs = C) :
    Calls Tryd.prog 13 #[feedV p l d s A1 nb c1 A2 nh c2, headV hl hd ht, .slice X ng cz] w (HeadOut w op ol od os obs ohs mb mh C) := by
  have h := sfeedHead_any p l d s A1 c1 A2 c2 bs hs hl hd ht X cz zs w hG hF hn1 hn2
  rw [h1, h2, h3, hO, hC] at h
  exact h.mono fun e w' k => headRet_out h4 h5 k
theorem sameFeed_n (p l d s : Int) (A1 : Option Addr) (c1 : Nat) (A2 : Option Addr) (c2 : Nat) (A3 : Option Addr) (c3 : Nat) (A4 : Option Addr) (c4 : Nat) (bs : List ByteArray) (hs : List Bool) (w : World) (hF : FeedAt w w.heap.size A1 A2 bs hs) (hG : FeedAt w w.heap.size A3 A4 bs hs) {m n : Nat} (hm : bs.length = m) (hn : hs.length = n) :
    Calls Tryd.prog 14 #[feedV p l d s A1 m c1 A2 n c2, feedV p l d s A3 m c3 A4 n c4] w fun e w' => e = .returned (.bool true) ∧ Below w.heap.size w w' := by
  subst hm; subst hn; exact sameFeed_same p l d s A1 c1 A2 c2 A3 c3 A4 c4 bs hs w hF hG
/-- The cells of a head's block. -/
theorem head_cells {W : World} {g : Nat} {t : TypeId} {v0 v1 v2 : Value} (h : Blk W g t #[v0, v1, v2]) : W.cell? ⟨g, 0, none⟩ = some v0 ∧ W.cell? ⟨g, 1, none⟩ = some v1 ∧ W.cell? ⟨g, 2, none⟩ = some v2 := ⟨h.cell 0, h.cell 1, h.cell 2⟩
theorem neb {x y : Int} (h : x ≠ y) : (x != y) = true := by simp [h]
theorem neb' {x y : Int} (h : x ≠ y) : (x == y) = false := by simp [h]
theorem eqb {x y : Int} (h : x = y) : (x == y) = true := by simp [h]
theorem eqb' {x y : Int} (h : x = y) : (x != y) = false := by simp [h]
theorem code3_facts {f : FD} {l d s : Int} {zs : List Int} (h : codeZ f l d s zs = 3) : okB f = true ∧ signedB f.p l d s = true ∧ l ≠ 0 ∧ l = f.l ∧ ¬ (d = f.d ∧ s = f.s) := by
  rcases code_cases f l d s zs with k | k | k | k | k | k | k
  · omega
  · have := k.2.2; omega
  · have := k.2.2.2.2.2.2; omega
  · have := k.2.2.2.2; omega
  · exact ⟨k.1, k.2.1, k.2.2.1, k.2.2.2.1, k.2.2.2.2.1⟩
  · have := k.2.2.2.2.2.2; omega
  · have := k.2.2.2.2.2; omega
theorem ok_of_code {f : FD} {l d s C : Int} {zs : List Int} (h : codeZ f l d s zs = C) (h5 : ¬ C = 5) : okB f = true := by
  cases k : okB f with
  | true => rfl
  | false => exact absurd (h.symm.trans (code5 k)) h5
theorem code_unsigned {f : FD} {l d s C : Int} {zs : List Int} (h : codeZ f l d s zs = C) (h5 : ¬ C = 5) (hu : signedB f.p l d s = false) : C = 4 := h.symm.trans (code4u (ok_of_code h h5) hu)
/-- What the code of a signed head that is not empty says. -/
theorem code_compare {p l d s : Int} {bs : List ByteArray} {hs : List Bool} {hl hd ht C : Int} {zs : List Int} (h : codeZ ⟨p, l, d, s, bs, hs⟩ hl hd ht zs = C) (h5 : ¬ C = 5) (hu : signedB p hl hd ht = true) (hz : ¬ hl = 0) :
    (hl = l ∧ hd = d ∧ ht = s ∧ C = 1) ∨ (hl < l ∧ C = 2) ∨ (hl = l ∧ ¬ (hd = d ∧ ht = s) ∧ C = 3) ∨ (l < hl ∧ C = 4) ∨ (l < hl ∧ C = 0) := by
  rcases code_cases ⟨p, l, d, s, bs, hs⟩ hl hd ht zs with ⟨_, k⟩ | ⟨_, k, _⟩ | ⟨_, _, _, e1, e2, e3, k⟩ | ⟨_, _, _, e1, k⟩ | ⟨_, _, _, e1, e2, k⟩ | ⟨_, _, _, e1, _, _, k⟩ | ⟨_, _, _, e1, _, k⟩
  · exact absurd (h.symm.trans k) h5
  · rcases k with k | k
    · simp only at k; rw [hu] at k; cases k
    · exact absurd k hz
  · exact .inl ⟨e1, e2, e3, h.symm.trans k⟩
  · exact .inr (.inl ⟨e1, h.symm.trans k⟩)
  · exact .inr (.inr (.inl ⟨e1, e2, h.symm.trans k⟩))
  · exact .inr (.inr (.inr (.inl ⟨e1, h.symm.trans k⟩)))
  · exact .inr (.inr (.inr (.inr ⟨e1, h.symm.trans k⟩)))
theorem code_grown {p l d s : Int} {bs : List ByteArray} {hs : List Bool} {hl hd ht C : Int} {zs : List Int} (h : codeZ ⟨p, l, d, s, bs, hs⟩ hl hd ht zs = C) (h5 : ¬ C = 5) (hu : signedB p hl hd ht = true) (hL : ¬ hl ≤ l) (hZ : ¬ l = 0) : (C == 0) = growOkB l d hl hd zs := by
  have hok := ok_of_code h h5
  have hlen := ((okB_iff _).1 hok).2.1.len.1
  simp only at hlen
  cases hg : growOkB l d hl hd zs with
  | true => exact eqb (h.symm.trans (code0 (f := ⟨p, l, d, s, bs, hs⟩) hok hu (by omega) (by show l < hl; omega) (.inr hg)))
  | false =>
    have h4 := h.symm.trans (code4g (f := ⟨p, l, d, s, bs, hs⟩) hok hu (by omega) (by show l < hl; omega) (by show 0 < l; omega) hg)
    exact neb' (by omega)
theorem twice_old {f : FD} {l d s : Int} {zs : List Int} (h : codeZ f l d s zs = 0) (ys : List Int) : headF (nextF f l d s) f.l f.d f.s ys = nextF f l d s ∧ (f.l ≠ 0 → codeZ (nextF f l d s) f.l f.d f.s ys = 2) := by
  by_cases hl : f.l = 0
  · obtain ⟨h1, h2, h3, _⟩ := code0_facts h
    exact ⟨headF_4 (code4z (f := nextF f l d s) (next_ok h1 h2 h3) hl), fun k => absurd hl k⟩
  · exact ⟨headF_2 (code_older h hl ys), code_older h hl ys |> fun k _ => k⟩
theorem sameFeed_eq (op ol od os : Int) (A1 : Option Addr) (c1 : Nat) (A2 : Option Addr) (c2 : Nat) (p l d s : Int) (A3 : Option Addr) (c3 : Nat) (A4 : Option Addr) (c4 : Nat) {obs bs : List ByteArray} {ohs hs : List Bool} (w : World) (he : (⟨op, ol, od, os, obs, ohs⟩ : FD) = ⟨p, l, d, s, bs, hs⟩) (hF : FeedAt w w.heap.size A1 A2 obs ohs) (hG : FeedAt w w.heap.size A3 A4 bs hs) {m n m' n' : Nat} (hm : obs.length = m) (hn : ohs.length = n) (hm' : bs.length = m') (hn' : hs.length = n') :
    Calls Tryd.prog 14 #[feedV op ol od os A1 m c1 A2 n c2, feedV p l d s A3 m' c3 A4 n' c4] w fun e w' => e = .returned (.bool true) ∧ Below w.heap.size w w' := by
  injection he with e1 e2 e3 e4 e5 e6
  subst e1; subst e2; subst e3; subst e4; subst e5; subst e6; subst hm'; subst hn'; subst hm; subst hn
  exact sameFeed_same op ol od os A1 c1 A2 c2 A3 c3 A4 c4 obs ohs w hF hG

end Go.Proofs.YtlpdoieiiadhhaaDoor
