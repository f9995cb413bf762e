/- Contracts of the exact laws' helpers with the lengths named; markIntS from any number; how a feed of the call's own is kept. Conditions: as of those helpers. -/
import Derived.Test.YtgklkceoafohmaaDoorBaseL
import Derived.Test.YtgklkceoafohmaaDoorBaseD
import Derived.Deep.DeepCutAuto
namespace Go.Proofs.YtgklkceoafohmaaDoor
open Go.RowKit
set_option linter.unusedVariables false

def MarkedK (w : World) (base : Nat) (A : Option Addr) (cap k0 n : Nat) (e : Ending) (w' : World) : Prop :=
  e = .returned (.int .i64 ((k0 + n : Nat) : Int)) ∧ OwnInts w' base A cap (marks k0 n) ∧ (∀ b, A = some ⟨b, 0, none⟩ → w.grownBy w' (some b)) ∧ (A = none → w = w')
set_option maxHeartbeats 2000000 in
theorem markk_some (base b cap k0 : Nat) (zs : List Int) (w : World) (hO : OwnInts w base (some ⟨b, 0, none⟩) cap zs) (hm : zs.length ≤ 1048576) (hk0 : k0 ≤ 4000000) :
    Calls Tryd.prog 24 #[.slice (some ⟨b, 0, none⟩) zs.length cap, .int .i64 (k0 : Int)] w (MarkedK w base (some ⟨b, 0, none⟩) cap k0 zs.length) := by
  have HO := Lib.hid hO
  obtain ⟨n, HN⟩ : ∃ n, Hid (zs.length = n) := ⟨_, rfl⟩
  rw [HN.out] at hm ⊢
  clear hO
  go_enter Tryd.func24, Tryd.ntmps24
  go_wp2
  go_loopw [1, 5] (fun x i w' => ∃ k : Nat, k ≤ n ∧ x = .int .i64 ((k0 + k : Nat) : Int) ∧ i = .int .i64 k ∧ Hid (OwnInts w' base (some ⟨b, 0, none⟩) cap (marks k0 k ++ zs.drop k)) ∧ Hid (w.grownBy w' (some b))) (fun _ i _ => n - (intOf i).toNat)
  case atStart => exact ⟨0, by omega, rfl, rfl, HO, World.grownBy.refl _ _⟩
  case round =>
    obtain ⟨k, hk, rfl, rfl, HO1, HG⟩ := hrel
    by_cases hlt : k < n
    · have hkz : k < zs.length := by rw [HN.out]; exact hlt
      have hlen : (marks k0 k ++ zs.drop k).length = n := by rw [List.length_append, marks_length, List.length_drop, HN.out]; omega
      obtain ⟨hcx, hfx⟩ := own_cell HO1.out k (by omega)
      have hki : (k : Int) < (n : Int) := by omega
      have hs := own_stored HO1.out k ((k0 + k : Nat) : Int)
      rw [marks_step zs k0 k hkz] at hs
      have HS := Lib.hid hs.1
      have HGS : Hid (w.grownBy (wr.setCell ⟨b, k, none⟩ (.int .i64 ((k0 + k : Nat) : Int))) (some b)) := World.grownBy.trans HG.out hs.2
      clear hkz hlen hs
      have hcast : ((k0 + k : Nat) : Int) = (k0 : Int) + (k : Int) := by omega
      rw [hcast] at HS HGS
      clear hcast
      go_wp2
      go_roundw
      case rel => exact ⟨k + 1, by omega, by go_num, by go_num, HS, HGS⟩
      case measure => simp [intOf]; omega
    · have hkn : k = n := by omega
      subst hkn
      have ho := HO1.out
      rw [List.drop_eq_nil_of_le (by rw [HN.out]; omega), List.append_nil] at ho
      have HO' := Lib.hid ho
      clear ho
      go_wp2
      go_ret
      exact ⟨ret_int (by simp), HO'.out, (fun b' e => by injection e with e; injection e with e _ _; subst e; exact HG.out), (fun e => by cases e)⟩


theorem OwnFeed.rows {w : World} {base : Nat} {A1 A2 : Option Addr} {c1 c2 : Nat} {bs : List ByteArray} {hs : List Bool} (h : OwnFeed w base A1 c1 A2 c2 bs hs) : ∀ g, (A1 = some ⟨g, 0, none⟩ ∨ A2 = some ⟨g, 0, none⟩) → base ≤ g ∧ g < w.heap.size := by
  rintro g (e | e)
  · exact owns_lt h.strs g e
  · exact ownb_lt h.bits g e
theorem OwnFeed.blocks {w w' : World} {base : Nat} {A1 A2 : Option Addr} {c1 c2 : Nat} {bs : List ByteArray} {hs : List Bool} (h : OwnFeed w base A1 c1 A2 c2 bs hs) (hk : ∀ g, (A1 = some ⟨g, 0, none⟩ ∨ A2 = some ⟨g, 0, none⟩) → w'.heap[g]? = w.heap[g]?) : OwnFeed w' base A1 c1 A2 c2 bs hs :=
  ⟨owns_block h.strs fun g e => hk g (.inl e), ownb_block h.bits fun g e => hk g (.inr e), h.fit⟩
theorem six_other (W : World) (g : Nat) (v0 v1 v2 v3 v4 v5 : Value) (i : Nat) (hi : i ≠ g) : ((((((W.setCell ⟨g, 0, none⟩ v0).setCell ⟨g, 1, none⟩ v1).setCell ⟨g, 2, none⟩ v2).setCell ⟨g, 3, none⟩ v3).setCell ⟨g, 4, none⟩ v4).setCell ⟨g, 5, none⟩ v5).heap[i]? = W.heap[i]? := by
  rw [Below.heap_setCell _ ⟨g, 5, none⟩ _ i hi, Below.heap_setCell _ ⟨g, 4, none⟩ _ i hi, Below.heap_setCell _ ⟨g, 3, none⟩ _ i hi, Below.heap_setCell _ ⟨g, 2, none⟩ _ i hi, Below.heap_setCell _ ⟨g, 1, none⟩ _ i hi, Below.heap_setCell _ ⟨g, 0, none⟩ _ i hi]
def CopiedI (w : World) (zs : List Int) (n : Nat) (e : Ending) (w' : World) : Prop :=
  ∃ g, e = .returned (.slice (some ⟨g, 0, none⟩) n n) ∧ (w.heap.size ≤ g ∧ g < w'.heap.size) ∧ OwnInts w' w.heap.size (some ⟨g, 0, none⟩) n zs ∧ Below w.heap.size w w'
theorem toInts_n (A : Option Addr) (cap : Nat) (zs : List Int) (w : World) (hI : IntsAt w w.heap.size A zs) (hm : zs.length ≤ 1048576) {n : Nat} (hn : zs.length = n) :
    Calls Tryd.prog 20 #[.slice A n cap] w (CopiedI w zs n) := by
  subst hn
  refine (toInts_any A cap zs w hI hm).mono ?_
  rintro e w' ⟨rfl, ho, hb⟩
  exact ⟨_, rfl, own_lt ho _ rfl, ho, hb⟩
theorem eqInts_n (A : Option Addr) (c : Nat) (A1 : Option Addr) (c1 : Nat) (zs : List Int) (w : World) (hI : IntsAt w w.heap.size A zs) (hJ : IntsAt w w.heap.size A1 zs) (hm : zs.length ≤ 1048576) {n : Nat} (hn : zs.length = n) :
    Calls Tryd.prog 22 #[.slice A n c, .slice A1 n c1] w fun e w' => e = .returned (.bool true) ∧ Below w.heap.size w w' := by
  subst hn
  refine (eqi_any A c zs A1 c1 zs w hI hJ (by unfold maxLen; omega) (by unfold maxLen; omega)).mono ?_
  rintro e w' ⟨rfl, q, rfl⟩
  exact ⟨by rw [decide_eq_true rfl], below_drewN (Below.refl _ _) q⟩
theorem markFeed_n (p l d s : Int) (base : Nat) (A1 : Option Addr) (c1 : Nat) (A2 : Option Addr) (c2 : Nat) (bs : List ByteArray) (hs : List Bool) (w : World) (hF : OwnFeed w base A1 c1 A2 c2 bs hs) (hlb : bs.length ≤ 1048576) (hlh : hs.length ≤ 1048576) (hbs : base ≤ w.heap.size) {m n k : Nat} (hm : bs.length = m) (hn : hs.length = n) (hk : 1 + m + n = k) :
    Calls Tryd.prog 23 #[feedV p l d s A1 m c1 A2 n c2, .int .i64 1] w fun e w' => e = .returned (.int .i64 (k : Int)) ∧ OwnFeed w' base A1 c1 A2 c2 (smarks 1 m) (bmarks (1 + m) n) ∧ Below base w w' ∧ ∀ i, i < w.heap.size → (∀ g, (A1 = some ⟨g, 0, none⟩ ∨ A2 = some ⟨g, 0, none⟩) → i ≠ g) → w'.heap[i]? = w.heap[i]? := by
  subst hm; subst hn; subst hk
  refine (markFeed_any p l d s base A1 c1 A2 c2 bs hs w hF hlb hlh hbs).mono ?_
  rintro e w' ⟨h1, h2, h3, h4⟩
  exact ⟨h1, h2, h3, fun i hi hne => h4 i hi (fun g e => hne g (.inl e)) (fun g e => hne g (.inr e))⟩
theorem heldFeed_n (p l d s : Int) (A1 : Option Addr) (c1 : Nat) (A2 : Option Addr) (c2 : Nat) (m n : Nat) (w : World) (hF : FeedAt w w.heap.size A1 A2 (smarks 1 m) (bmarks (1 + m) n)) (hlb : m ≤ 1048576) (hlh : n ≤ 1048576) {k : Nat} (hk : 1 + m + n = k) :
    Calls Tryd.prog 25 #[feedV p l d s A1 m c1 A2 n c2, .int .i64 1] w fun e w' => e = .returned (.int .i64 (k : Int)) ∧ Below w.heap.size w w' := by
  subst hk; exact heldFeed_any p l d s A1 c1 A2 c2 m n w hF hlb hlh
theorem markInts_n (base b cap k0 : Nat) (zs : List Int) (w : World) (hO : OwnInts w base (some ⟨b, 0, none⟩) cap zs) (hm : zs.length ≤ 1048576) (hk0 : k0 ≤ 4000000) {n k : Nat} (hn : zs.length = n) (hk : k0 + n = k) :
    Calls Tryd.prog 24 #[.slice (some ⟨b, 0, none⟩) n cap, .int .i64 (k0 : Int)] w fun e w' => e = .returned (.int .i64 (k : Int)) ∧ w.grownBy w' (some b) := by
  subst hn; subst hk
  refine (markk_some base b cap k0 zs w hO hm hk0).mono ?_
  rintro e w' ⟨h1, _, h3, _⟩
  exact ⟨h1, h3 b rfl⟩

end Go.Proofs.YtgklkceoafohmaaDoor
