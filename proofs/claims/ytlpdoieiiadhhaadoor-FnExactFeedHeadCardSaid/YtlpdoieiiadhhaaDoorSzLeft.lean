/- Contracts of szFeed at any rest, and of toFeed and eqFeed with the lengths named. Conditions: the feed lies in memory; the rest is from 0 to 1048576. -/
import Derived.Test.YtlpdoieiiadhhaaDoorBaseL
namespace Go.Proofs.YtlpdoieiiadhhaaDoor
open Go.RowKit
set_option linter.unusedVariables false

/-- What szFeed answers: at least 0 only if the lists are short. -/
def SizedL (left : Int) (w : World) (bs : List ByteArray) (hs : List Bool) (e : Ending) (w' : World) : Prop :=
  ∃ r : Int, e = .returned (.int .i64 r) ∧ -1 ≤ r ∧ r ≤ left ∧ (0 ≤ r → bs.length ≤ 1048576 ∧ hs.length ≤ 1048576) ∧ Below w.heap.size w w'

set_option maxHeartbeats 2000000 in
set_option maxRecDepth 100000 in
theorem szFeed_left (left : Int) (h0 : 0 ≤ left) (h1 : left ≤ 1048576) (p l d s : Int) (A1 : Option Addr) (c1 : Nat) (A2 : Option Addr) (c2 : Nat) (bs : List ByteArray) (hs : List Bool) (w : World) (hF : FeedAt w w.heap.size A1 A2 bs hs) :
    Calls Tryd.prog 22 #[feedV p l d s A1 bs.length c1 A2 hs.length c2, .int .i64 left] w (SizedL left w bs hs) := by
  have HF := Lib.hid hF
  have hlb := hF.lb
  have hlh := hF.lh
  clear hF
  have hbel : Below w.heap.size w (w.alloc (.cells (feedC p l d s A1 bs.length c1 A2 hs.length c2) 45)) := (Below.refl _ w).alloc (Nat.le_refl _) _
  have HB := Lib.hid hbel
  have C1 := Lib.hid (szStr_any A1 c1 bs left _ (HF.out.belowS hbel).strs HF.out.fit hlb h0 h1)
  clear hbel
  obtain ⟨m, HM⟩ : ∃ m, Hid (bs.length = m) := ⟨_, rfl⟩
  obtain ⟨n, HN⟩ : ∃ n, Hid (hs.length = n) := ⟨_, rfl⟩
  have FIN : Hid (∀ (r : Int) (W : World), -1 ≤ r → r ≤ left → (0 ≤ r → m ≤ 1048576 ∧ n ≤ 1048576) → Below w.heap.size w W → SizedL left w bs hs (.returned (.int .i64 r)) W) := fun r W k0 k1 h2 h3 => ⟨r, rfl, k0, k1, by rw [HM.out, HN.out]; exact h2, h3⟩
  rw [HM.out] at hlb C1 HB ⊢
  rw [HN.out] at hlh C1 HB ⊢
  go_enter Tryd.func22, Tryd.ntmps22
  go_wp2_with fail
  refine C1.out.mono ?_
  rintro e w1 ⟨r, rfl, hr0, hr1, hr2, rfl⟩
  by_cases hr : 0 ≤ r
  · have hr2' := hr2 hr
    clear hr2
    go_wp2_with fail
    refine (szBool_any A2 n c2 r _ hlh hr (by omega)).mono ?_
    rintro e w2 ⟨q, rfl, hq0, hq1, hq2, rfl⟩
    by_cases hq : 0 ≤ q
    · have hq2' := hq2 hq
      clear hq2
      go_wp2
      go_ret
      exact FIN.out _ _ (by omega) (by omega) (fun _ => ⟨by omega, by omega⟩) HB.out
    · clear hq2
      go_wp2
      go_ret
      exact FIN.out _ _ (by omega) (by omega) (fun h => by omega) HB.out
  · clear hr2
    go_wp2
    go_ret
    exact FIN.out _ _ (by omega) (by omega) (fun h => by omega) HB.out

def CopiedN (w : World) (p l d s : Int) (bs : List ByteArray) (hs : List Bool) (m n : Nat) (e : Ending) (w' : World) : Prop :=
  ∃ g1 g2, e = .returned (feedV p l d s (some ⟨g1, 0, none⟩) m m (some ⟨g2, 0, none⟩) n n) ∧ OwnFeed w' w.heap.size (some ⟨g1, 0, none⟩) m (some ⟨g2, 0, none⟩) n bs hs ∧ Below w.heap.size w w'
theorem toFeed_n (p l d s : Int) (A1 : Option Addr) (c1 : Nat) (A2 : Option Addr) (c2 : Nat) (bs : List ByteArray) (hs : List Bool) (w : World) (hF : FeedAt w w.heap.size A1 A2 bs hs) (hlb : bs.length ≤ 1048576) (hlh : hs.length ≤ 1048576) {m n : Nat} (hm : bs.length = m) (hn : hs.length = n) :
    Calls Tryd.prog 23 #[feedV p l d s A1 m c1 A2 n c2] w (CopiedN w p l d s bs hs m n) := by
  subst hm; subst hn; exact toFeed_any p l d s A1 c1 A2 c2 bs hs w hF hlb hlh
theorem eqFeed_n (p l d s : Int) (A1 : Option Addr) (c1 : Nat) (A2 : Option Addr) (c2 : Nat) (A3 : Option Addr) (c3 : Nat) (A4 : Option Addr) (c4 : Nat) (bs : List ByteArray) (hs : List Bool) (w : World) (hF : FeedAt w w.heap.size A1 A2 bs hs) (hG : FeedAt w w.heap.size A3 A4 bs hs) {m n : Nat} (hm : bs.length = m) (hn : hs.length = n) :
    Calls Tryd.prog 26 #[feedV p l d s A1 m c1 A2 n c2, feedV p l d s A3 m c3 A4 n c4] w fun e w' => e = .returned (.bool true) ∧ Below w.heap.size w w' := by
  subst hm; subst hn; exact eqFeed_same p l d s A1 c1 A2 c2 A3 c3 A4 c4 bs hs w hF hG

end Go.Proofs.YtlpdoieiiadhhaaDoor
