/- Contract of the model of FeedValid: it reports whether a feed is valid, and changes nothing that was there. Condition: the feed lies in memory. -/
import Derived.Test.YtkmebilhbjcfpaaGreatBaseI
import Derived.Test.YtkmebilhbjcfpaaGreatBaseJ
import Derived.Test.YtkmebilhbjcfpaaGreatSFeedE
namespace Go.Proofs.YtkmebilhbjcfpaaGreat
open Go.RowKit
set_option linter.unusedVariables false

theorem sfeedValid_any (p l d s : Int) (A1 : Option Addr) (c1 : Nat) (A2 : Option Addr) (c2 : Nat) (bs : List ByteArray) (hs : List Bool) (w : World) (hF : FeedAt w w.heap.size A1 A2 bs hs) :
    Calls Tryz.prog 21 #[feedV p l d s A1 bs.length c1 A2 hs.length c2] w fun e w' => e = .returned (.bool (okB ⟨p, l, d, s, bs, hs⟩)) ∧ Below w.heap.size w w' := by
  by_cases hp : 1 ≤ p ∧ p < 997
  · obtain ⟨h0, h1⟩ := hp
    by_cases hz : l = 0 ∧ d = 0 ∧ s = 0
    · obtain ⟨rfl, rfl, rfl⟩ := hz
      by_cases hn : bs.length = 0
      · by_cases hm : hs.length = 0
        · have e1 := List.eq_nil_of_length_eq_zero hn
          have e2 := List.eq_nil_of_length_eq_zero hm
          subst e1 e2
          rw [okB_yes ⟨⟨h0, h1⟩, .inl ⟨rfl, rfl, rfl⟩, ⟨rfl, rfl⟩, fun k hk => absurd hk (Nat.not_lt_zero _), fun e => by cases e⟩]
          exact sfv_noneZ p A1 c1 A2 c2 w h0 h1
        · rw [ok_lens (by intro e; omega), hn]
          exact sfv_lensZ2 p A1 c1 A2 hs.length c2 w (Nat.zero_le _) hF.lh h0 h1 hm
      · rw [ok_lens (by intro e; omega)]
        exact sfv_lensZ1 p A1 bs.length c1 A2 hs.length c2 w hF.lb hF.lh h0 h1 hn
    · cases hS : signedB p l d s with
      | false =>
        rw [ok_head hz hS]
        by_cases hl : l = 0
        · subst hl
          by_cases hd : d = 0
          · subst hd
            exact sfv_unsignedC p s A1 _ c1 A2 _ c2 w h0 h1 (fun e => hz ⟨rfl, rfl, e⟩) hS
          · exact sfv_unsignedB p d s A1 _ c1 A2 _ c2 w h0 h1 hd hS
        · exact sfv_unsignedA p l d s A1 _ c1 A2 _ c2 w h0 h1 hl hS
      | true =>
        have h16 := ((signedB_iff _ _ _ _).1 hS).2.1
        have hs1 := ((signedB_iff _ _ _ _).1 hS).2.2.2.1
        by_cases hl : l = 0
        · subst hl
          by_cases hn : bs.length = 0
          · by_cases hm : hs.length = 0
            · have e1 := List.eq_nil_of_length_eq_zero hn
              have e2 := List.eq_nil_of_length_eq_zero hm
              subst e1 e2
              rw [okB_yes ⟨⟨h0, h1⟩, .inr hS, ⟨rfl, rfl⟩, fun k hk => absurd hk (Nat.not_lt_zero _), fun e => by cases e⟩]
              by_cases hd : d = 0
              · subst hd
                exact sfv_noneC p s A1 c1 A2 c2 w h0 h1 (by omega) hS
              · exact sfv_noneB p d s A1 c1 A2 c2 w h0 h1 hd hS
            · rw [ok_lens (by intro e; omega), hn]
              by_cases hd : d = 0
              · subst hd
                exact sfv_lensC2 p s A1 c1 A2 hs.length c2 w (Nat.zero_le _) hF.lh h0 h1 (by omega) hS hm
              · exact sfv_lensB2 p d s A1 c1 A2 hs.length c2 w (Nat.zero_le _) hF.lh h0 h1 hd hS hm
          · rw [ok_lens (by intro e; omega)]
            by_cases hd : d = 0
            · subst hd
              exact sfv_lensC1 p s A1 bs.length c1 A2 hs.length c2 w hF.lb hF.lh h0 h1 (by omega) hS hn
            · exact sfv_lensB1 p d s A1 bs.length c1 A2 hs.length c2 w hF.lb hF.lh h0 h1 hd hS hn
        · by_cases hn : (bs.length : Int) = l
          · subst hn
            by_cases hm : hs.length = bs.length
            · exact sfv_body p d s A1 c1 A2 c2 bs hs w hF h0 h1 (by omega) (by omega) hS hm
            · rw [ok_lens (by intro e; omega)]
              exact sfv_lensA2 p d s A1 bs.length c1 A2 hs.length c2 w hF.lb hF.lh h0 h1 (by omega) hS hm
          · rw [ok_lens (fun e => hn e.1)]
            exact sfv_lensA1 p l d s A1 bs.length c1 A2 hs.length c2 w hF.lb hF.lh h0 h1 hl hS hn
  · rw [ok_key hp]
    exact sfv_key p l d s A1 bs.length c1 A2 hs.length c2 w hp

end Go.Proofs.YtkmebilhbjcfpaaGreat
