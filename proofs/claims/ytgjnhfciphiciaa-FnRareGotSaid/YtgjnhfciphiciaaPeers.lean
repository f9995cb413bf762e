/- Bits of peers in memory: a slice of slices of bools; contracts of bitSet, havingPeers, bitsValid and peersValid. Conditions: the bits lie in memory. -/
import Derived.Test.YtgjnhfciphiciaaRareMath
namespace Go.Proofs.Ytgjnhfciphiciaa
open Go.RowKit
set_option linter.unusedVariables false

/-- The slice of one peer's bits. -/
structure PH where
  a : Option Addr
  c : Nat
  zs : List Bool
def PK : Kind PH := ⟨28, 1, 24, fun h => [.slice h.a h.zs.length h.c], fun _ => rfl, fun h u hu => by
  rw [List.mem_singleton.1 hu]; rfl, by decide⟩
def pz (hs : List PH) : List (List Bool) := hs.map PH.zs
theorem pz_length (hs : List PH) : (pz hs).length = hs.length := List.length_map _
def hth (hs : List PH) (i : Nat) : PH := hs.getD i ⟨none, 0, []⟩
theorem hth_get (hs : List PH) (i : Nat) (h : i < hs.length) : hs[i]? = some (hth hs i) := by
  unfold hth; rw [List.getD_eq_getElem?_getD, List.getElem?_eq_getElem h]; rfl
theorem hth_eq (hs : List PH) (i : Nat) (h : i < hs.length) : hth hs i = hs[i] := by
  have := hth_get hs i h
  rw [List.getElem?_eq_getElem h] at this
  injection this with this; exact this.symm
theorem hth_mem (hs : List PH) (i : Nat) (h : i < hs.length) : hth hs i ∈ hs := by rw [hth_eq hs i h]; exact List.getElem_mem h
theorem pth_pz (hs : List PH) (i : Nat) : pth (pz hs) i = (hth hs i).zs := by
  unfold pth hth pz
  rw [List.getD_eq_getElem?_getD, List.getD_eq_getElem?_getD, List.getElem?_map]
  cases hs[i]? <;> rfl

/-- The bits of peers lie in memory, below block B. -/
structure PAt (w : World) (B : Nat) (A : Option Addr) (hs : List PH) : Prop where
  row : RowAt PK w B A hs
  bits : ∀ h ∈ hs, BoolsAt w B h.a h.zs
  fit : ∀ h ∈ hs, h.zs.length ≤ h.c ∧ h.c ≤ maxLen
  most : hs.length ≤ maxLen
section
variable {w w' : World} {B B' : Nat} {A : Option Addr} {hs : List PH}
theorem PAt.below {C : Nat} (h : PAt w B A hs) (hb : Below C w w') (hC : B ≤ C) : PAt w' B A hs := ⟨h.row.below hb hC, fun x hx => (h.bits x hx).below hb hC, h.fit, h.most⟩
theorem PAt.belowS (h : PAt w w.heap.size A hs) (hb : Below w.heap.size w w') : PAt w' w'.heap.size A hs := ⟨h.row.belowS hb, fun x hx => (h.bits x hx).belowS hb, h.fit, h.most⟩
theorem PAt.allocS (h : PAt w w.heap.size A hs) (o : Obj) : PAt (w.alloc o) (w.alloc o).heap.size A hs := ⟨h.row.allocS o, fun x hx => (h.bits x hx).allocS o, h.fit, h.most⟩
theorem PAt.more (h : PAt w B A hs) (hB : B ≤ B') : PAt w B' A hs := ⟨h.row.more hB, fun x hx => (h.bits x hx).more hB, h.fit, h.most⟩
theorem PAt.keep (h : PAt w B A hs) (hk : ∀ p : Addr, p.block < B → w'.cell? p = w.cell? p) : PAt w' B A hs := ⟨h.row.keep hk, fun x hx => (h.bits x hx).keep hk, h.fit, h.most⟩
/-- The header of the i-th peer's bits. -/
theorem PAt.cell (h : PAt w B A hs) (i : Nat) (hi : i < hs.length) : ∃ b o, A = some ⟨b, o, none⟩ ∧ b < B ∧ w.cell? ⟨b, o + i, none⟩ = some (.slice (hth hs i).a (hth hs i).zs.length (hth hs i).c) := by
  obtain ⟨b, o, rfl, hb, hc⟩ := h.row (by omega)
  have := hc i (hth hs i) (hth_get hs i hi) 0 _ rfl
  refine ⟨b, o, rfl, hb, ?_⟩
  have e : o + i * PK.k + 0 = o + i := by show o + i * 1 + 0 = o + i; omega
  rw [e] at this
  exact this
theorem PAt.one (h : PAt w B A hs) (i : Nat) (hi : i < hs.length) : BoolsAt w B (hth hs i).a (hth hs i).zs := h.bits _ (hth_mem hs i hi)
end

theorem bth_out (zs : List Bool) (k : Nat) (h : zs.length ≤ k) : bth zs k = false := by
  unfold bth; rw [List.getD_eq_getElem?_getD, List.getElem?_eq_none h]; rfl

set_option maxHeartbeats 1000000 in
theorem bitSet_any (A : Option Addr) (cap k : Nat) (zs : List Bool) (w : World) (B : Nat) (hI : BoolsAt w B A zs) :
    Calls Try.prog 41 #[.slice A zs.length cap, .int .i64 (k : Int)] w fun e w' => e = .returned (.bool (bth zs k)) ∧ w' = w := by
  by_cases hk : k < zs.length
  · obtain ⟨b, o, rfl, _, hc⟩ := hI (by omega)
    have c0 := hc k hk
    have hkk : (k : Int) < (zs.length : Int) := by omega
    obtain ⟨n, HN⟩ : ∃ n, Hid (zs.length = n) := ⟨_, rfl⟩
    obtain ⟨v, HV⟩ : ∃ v, Hid (bth zs k = v) := ⟨_, rfl⟩
    rw [HN.out] at hkk hk ⊢
    rw [HV.out] at c0 ⊢
    clear hI hc
    go_enter Try.func41, Try.ntmps41
    go_wp2
    go_ret
    exact ⟨rfl, rfl⟩
  · rw [bth_out zs k (by omega)]
    have hkk : ¬ (k : Int) < (zs.length : Int) := by omega
    obtain ⟨n, HN⟩ : ∃ n, Hid (zs.length = n) := ⟨_, rfl⟩
    rw [HN.out] at hkk hk ⊢
    clear hI
    go_enter Try.func41, Try.ntmps41
    go_wp2
    go_ret
    exact ⟨rfl, rfl⟩

set_option maxHeartbeats 1000000 in
theorem bitsValid_any (A : Option Addr) (n cap : Nat) (w : World) : Calls Try.prog 44 #[.slice A n cap] w fun e w' => e = .returned (.bool (decide (n ≤ 16))) ∧ w' = w := by
  have hd : decide ((n : Int) ≤ 16) = decide (n ≤ 16) := by rw [decide_eq_decide]; omega
  rw [← hd]
  clear hd
  go_enter Try.func44, Try.ntmps44
  go_wp2
  go_ret
  exact ⟨by simp, rfl⟩

set_option maxHeartbeats 2000000 in
theorem having_any (A : Option Addr) (cap k : Nat) (hs : List PH) (w : World) (B : Nat) (hP : PAt w B A hs) :
    Calls Try.prog 32 #[.slice A hs.length cap, .int .i64 (k : Int)] w fun e w' => e = .returned (.int .i64 ((cntB (pz hs) k : Nat) : Int)) ∧ w' = w := by
  have hmx := hP.most
  unfold maxLen at hmx
  have HP := Lib.hid hP
  obtain ⟨n, HN⟩ : ∃ n, Hid (hs.length = n) := ⟨_, rfl⟩
  rw [HN.out] at hmx ⊢
  clear hP
  go_enter Try.func32, Try.ntmps32
  go_wp2
  go_loopw [5, 10] (fun x i w' => ∃ (q c : Nat), q ≤ n ∧ x = .int .i64 (c : Int) ∧ i = .int .i64 (q : Int) ∧ Hid (c = cntB ((pz hs).take q) k) ∧ c ≤ q ∧ Hid (w' = w)) (fun _ i _ => n - (intOf i).toNat)
  case atStart => exact ⟨0, 0, by omega, rfl, rfl, rfl, Nat.le_refl _, rfl⟩
  case round =>
    obtain ⟨q, c, hq, rfl, rfl, HC, hcq, HW⟩ := hrel
    have hw : wr = w := HW.out
    subst hw
    clear HW
    by_cases hlt : q < n
    · have hqz : q < hs.length := by rw [HN.out]; exact hlt
      obtain ⟨b, o, rfl, _, hc⟩ := HP.out.cell q hqz
      have C := Lib.hid (bitSet_any (hth hs q).a (hth hs q).c k (hth hs q).zs wr B (HP.out.one q hqz))
      have HT : Hid (cntB ((pz hs).take (q + 1)) k = c + if bth (hth hs q).zs k = true then 1 else 0) := by
        show _ = _
        rw [cntB_take (pz hs) q k (by rw [pz_length]; exact hqz), pth_pz, HC.out]
      obtain ⟨v, HV⟩ : ∃ v, Hid (bth (hth hs q).zs k = v) := ⟨_, rfl⟩
      rw [HV.out] at C HT
      obtain ⟨h, HH⟩ : ∃ h, Hid (hth hs q = h) := ⟨_, rfl⟩
      rw [HH.out] at C hc
      obtain ⟨ha, hcp, hz⟩ := h
      have hqi : (q : Int) < (n : Int) := by omega
      clear hqz
      cases v with
      | true =>
        go_wp2_with fail
        refine C.out.mono ?_
        rintro e w1 ⟨rfl, rfl⟩
        clear C
        go_wp2
        go_roundw
        case rel => exact ⟨q + 1, c + 1, by omega, by go_num, by go_num, HT.out.symm, by omega, (by first | exact Lib.hid trivial | exact Lib.hid rfl)⟩
        case measure => simp [intOf]; omega
      | false =>
        go_wp2_with fail
        refine C.out.mono ?_
        rintro e w1 ⟨rfl, rfl⟩
        clear C
        go_wp2
        go_roundw
        case rel => exact ⟨q + 1, c, by omega, rfl, by go_num, HT.out.symm, by omega, (by first | exact Lib.hid trivial | exact Lib.hid rfl)⟩
        case measure => simp [intOf]; omega
    · have hqn : q = n := by omega
      subst hqn
      have HE : Hid (c = cntB (pz hs) k) := by
        show _ = _
        rw [HC.out, ← HN.out, ← pz_length hs, List.take_length]
      go_wp2
      go_ret
      exact ⟨by rw [← HE.out]; rfl, rfl⟩

end Go.Proofs.Ytgjnhfciphiciaa
