/- The reader of a code, in memory (Rd), and the contract of pick: it returns a number from 0 to n-1, moves the reader's place on by one, and changes nothing else. Conditions: 1 ≤ n ≤ 1000, the place is at most 1000000, the code has at most 2000 bytes. -/
import Derived.Test.YtgpmodidpdjhkaaDig
import Derived.BigQuiet
import Derived.IntWalk
import Derived.Deep.Draws
import Derived.OwnWalk
import Derived.Maps.AppendAt
import Derived.Laws.Rows
namespace Go.Proofs.Ytgpmodidpdjhkaa
open Go.RowKit

theorem tmod_nat (a b : Nat) : ((a : Int)).tmod (b : Int) = ((a % b : Nat) : Int) := rfl
theorem tdiv_nat (a b : Nat) : ((a : Int)).tdiv (b : Int) = ((a / b : Nat) : Int) := rfl

theorem xor_small (a b : Int) (ha : 0 ≤ a) (ha2 : a < 4611686018427387904) (hb : 0 ≤ b) (hb2 : b < 4611686018427387904) : ∃ x : Nat, bits .xor .i64 a b = (x : Int) := by
  obtain ⟨A, rfl⟩ := Int.eq_ofNat_of_zero_le ha
  obtain ⟨C, rfl⟩ := Int.eq_ofNat_of_zero_le hb
  have hx : A ^^^ C < 2 ^ 62 := Nat.xor_lt_two_pow (by omega) (by omega)
  have one : ∀ m : Nat, m < 4611686018427387904 → (BitVec.ofInt 64 (m : Int)).toNat = m := by
    intro m hm
    rw [BitVec.ofInt_natCast, BitVec.toNat_ofNat]
    exact Nat.mod_eq_of_lt (by omega)
  refine ⟨A ^^^ C, ?_⟩
  show IntKind.i64.wrap ((BitVec.ofInt 64 (A : Int) ^^^ BitVec.ofInt 64 (C : Int)).toNat : Int) = _
  rw [BitVec.toNat_xor, one A (by omega), one C (by omega)]
  exact IntWalk.i64_in _ (by omega)

theorem rem_small (x : Nat) (n : Int) (hn : 1 ≤ n) : ∃ y : Nat, (x : Int).tmod n = (y : Int) ∧ (y : Int) < n := by
  obtain ⟨N, rfl⟩ := Int.eq_ofNat_of_zero_le (show 0 ≤ n by omega)
  refine ⟨x % N, tmod_nat x N, ?_⟩
  have := Nat.mod_lt x (show 0 < N by omega)
  omega

/-- The bytes of a slice: below block B, each a byte. -/
def BytesAt (w : World) (B : Nat) (A : Option Addr) (len : Nat) : Prop :=
  ∀ k, k < len → ∃ b o z, A = some ⟨b, o, none⟩ ∧ b < B ∧ w.cell? ⟨b, o + k, none⟩ = some (.int .u8 z) ∧ 0 ≤ z ∧ z < 256

/-- A reader: its block, its bytes below B, its place p. -/
structure Rd (w : World) (B g : Nat) (A : Option Addr) (len cap p : Nat) : Prop where
  blk : w.heap[g]? = some (.cells #[.slice A len cap, .int .i64 (p : Int)] 95 (0, 0))
  big : B ≤ g
  short : len ≤ 2000
  bytes : BytesAt w B A len

section
variable {w w' : World} {B g len cap p : Nat} {A : Option Addr}
theorem Rd.lt (h : Rd w B g A len cap p) : g < w.heap.size := by
  rcases Nat.lt_or_ge g w.heap.size with k | k
  · exact k
  · have := h.blk; rw [Array.getElem?_eq_none k] at this; cases this
theorem Rd.c0 (h : Rd w B g A len cap p) : w.cell? ⟨g, 0, none⟩ = some (.slice A len cap) := cell_of_row w g 0 _ _ (0, 0) h.blk
theorem Rd.c1 (h : Rd w B g A len cap p) : w.cell? ⟨g, 1, none⟩ = some (.int .i64 (p : Int)) := cell_of_row w g 1 _ _ (0, 0) h.blk
theorem Rd.f1 (h : Rd w B g A len cap p) : w.frozen? ⟨g, 1, none⟩ = false := by
  have := h.blk
  simp [World.frozen?, this]
theorem Rd.keep (h : Rd w B g A len cap p) (hk : ∀ i, i < B → w'.heap[i]? = w.heap[i]?) (hg : w'.heap[g]? = w.heap[g]?) : Rd w' B g A len cap p :=
  ⟨hg.trans h.blk, h.big, h.short, fun k hk' => by
    obtain ⟨b, o, z, hA, hb, hc, h0, h1⟩ := h.bytes k hk'
    exact ⟨b, o, z, hA, hb, (World.cell?_of_block (a := ⟨b, o + k, none⟩) (hk b hb)).trans hc, h0, h1⟩⟩
theorem Rd.grown {row : Option Nat} (h : Rd w B g A len cap p) (hg : w.grownBy w' row) (hr : ∀ k, row = some k → B ≤ k ∧ k ≠ g) : Rd w' B g A len cap p :=
  h.keep (fun i hi => hg.block i (by have := h.lt; have := h.big; omega) (fun e => by have := (hr i e.symm).1; omega)) (hg.block g h.lt (fun e => (hr g e.symm).2 rfl))
theorem Rd.alloc (h : Rd w B g A len cap p) (o : Obj) : Rd (w.alloc o) B g A len cap p :=
  h.keep (fun i hi => Below.heap_alloc w o i (by have := h.lt; have := h.big; omega)) (Below.heap_alloc w o g h.lt)
theorem Rd.drewN (h : Rd w B g A len cap p) (n : Nat) : Rd (w.drewN n) B g A len cap p := h.keep (fun _ _ => rfl) rfl
theorem Rd.drew (h : Rd w B g A len cap p) : Rd w.drew B g A len cap p := h.keep (fun _ _ => rfl) rfl
theorem Rd.setOther (h : Rd w B g A len cap p) {q : Addr} (hq : B ≤ q.block) (hne : q.block ≠ g) (u : Value) : Rd (w.setCell q u) B g A len cap p :=
  h.keep (fun i hi => Below.heap_setCell w q u i (by omega)) (Below.heap_setCell w q u g (fun e => hne e.symm))
theorem Rd.moved (h : Rd w B g A len cap p) : Rd (w.setCell ⟨g, 1, none⟩ (.int .i64 ((p : Int) + 1))) B g A len cap (p + 1) := by
  have hb := h.big
  refine ⟨?_, hb, h.short, fun k hk' => ?_⟩
  · have := h.blk
    simp only [World.setCell, Array.getElem?_modify, this]
    simp
  · obtain ⟨b, o, z, hA, hb', hc, h0, h1⟩ := h.bytes k hk'
    exact ⟨b, o, z, hA, hb', (World.cell?_of_block (a := ⟨b, o + k, none⟩) (Below.heap_setCell w ⟨g, 1, none⟩ _ b (by simp; omega))).trans hc, h0, h1⟩
end

/-- What a pick leaves: a number below n; the reader moved on by one; all other blocks as they were. -/
def Picked (n : Int) (w : World) (B g : Nat) (A : Option Addr) (len cap p : Nat) (e : Ending) (w' : World) : Prop :=
  ∃ x : Nat, (x : Int) < n ∧ e = .returned (.int .i64 (x : Int)) ∧ Rd w' B g A len cap (p + 1) ∧ w.grownBy w' (some g) ∧ w'.heap.size = w.heap.size

theorem grown_set (w : World) (g : Nat) (o : Nat) (u : Value) : w.grownBy (w.setCell ⟨g, o, none⟩ u) (some g) :=
  ⟨rfl, rfl, rfl, by simp [World.setCell], fun i _ hne => Below.heap_setCell w ⟨g, o, none⟩ u i (fun e => hne (by rw [e]))⟩
theorem grown_drewN {a w : World} {row : Option Nat} (h : a.grownBy w row) (n : Nat) : a.grownBy (w.drewN n) row := ⟨h.os, h.tape, h.output, h.size, h.block⟩
theorem Picked.mk {n : Int} {w : World} {B g : Nat} {A : Option Addr} {len cap p : Nat} (h : Rd w B g A len cap p) (x : Nat) (hx : (x : Int) < n) (q : Nat) {e : Ending} (he : e = .returned (.int .i64 (x : Int))) :
    Picked n w B g A len cap p e ((w.setCell ⟨g, 1, none⟩ (.int .i64 ((p : Int) + 1))).drewN q) :=
  ⟨x, hx, he, h.moved.drewN q, grown_drewN (grown_set _ _ _ _) q, by simp [World.setCell]⟩

set_option maxHeartbeats 1000000 in
set_option maxRecDepth 100000 in
theorem pick_far (B g len cap p : Nat) (A : Option Addr) (n : Int) (w : World) (hR : Rd w B g A len cap p) (hn : 1 ≤ n) (hn2 : n ≤ 1000) (hl : 0 < len) (hp : len ≤ p) (hp2 : p ≤ 1000000) :
    Calls Try.prog 47 #[.pointer (some ⟨g, 0, none⟩), .int .i64 n] w (Picked n w B g A len cap p) := by
  obtain ⟨m1, e1⟩ : ∃ m1, p % len = m1 := ⟨_, rfl⟩
  obtain ⟨m2, e2⟩ : ∃ m2, (p * 7 + 3) % len = m2 := ⟨_, rfl⟩
  obtain ⟨d, e3⟩ : ∃ d, p / len = d := ⟨_, rfl⟩
  have hm1 : m1 < len := by rw [← e1]; exact Nat.mod_lt _ hl
  have hm2 : m2 < len := by rw [← e2]; exact Nat.mod_lt _ hl
  have hd : d ≤ 1000000 := by rw [← e3]; exact Nat.le_trans (Nat.div_le_self _ _) hp2
  have E1 := Lib.hid (e1 ▸ tmod_nat p len)
  have E2 := Lib.hid (e2 ▸ tmod_nat (p * 7 + 3) len)
  have E3 := Lib.hid (e3 ▸ tdiv_nat p len)
  clear e1 e2 e3
  obtain ⟨b, o, z1, rfl, hb, hz1, h1, h2⟩ := hR.bytes m1 hm1
  obtain ⟨b', o', z2, hbb, _, hz2, h3, h4⟩ := hR.bytes m2 hm2
  injection hbb with hbb
  injection hbb with hbb hoo
  subst hbb hoo
  have c0 := hR.c0
  have c1 := hR.c1
  have f1 := hR.f1
  have hne : b ≠ g := by have := hR.big; omega
  have hl2 := hR.short
  have HR := Lib.hid hR
  clear hR
  have hlen : ((len : Int) == 0) = false := by simp; omega
  have hlt : decide (p < len) = false := by simp; omega
  have hlz : ¬ len = 0 := by omega
  have hn0 : decide (n < 1) = false := by simp; omega
  go_enter Try.func47, Try.ntmps47
  go_wp2_with fail
  have k1 : (p : Int).tmod (len : Int) = (m1 : Int) := E1.out
  have k2 : IntKind.i64.wrap ((p : Int) * 7) = (p : Int) * 7 := IntWalk.i64_in _ (by omega)
  have k3 : IntKind.i64.wrap ((p : Int) * 7 + 3) = (p : Int) * 7 + 3 := IntWalk.i64_in _ (by omega)
  have k4 : ((p : Int) * 7 + 3).tmod (len : Int) = (m2 : Int) := E2.out
  have k5 : (p : Int).tdiv (len : Int) = (d : Int) := E3.out
  go_quiet (fail)
  clear k1 k2 k3 k4 k5
  go_wp2_with fail
  go_ret
  obtain ⟨x, hx⟩ := xor_small (z1 * 131 + z2 * 1117 + (p : Int) * 29 + (d : Int) * 53) ((z1 * 131 + z2 * 1117 + (p : Int) * 29 + (d : Int) * 53) / 64) (by omega) (by omega) (by omega) (by omega)
  obtain ⟨y, hy, hy2⟩ := rem_small x n hn
  exact Picked.mk HR.out y hy2 _ (ret_int (by rw [hx, hy]))

set_option maxHeartbeats 1000000 in
set_option maxRecDepth 100000 in
theorem pick_near (B g len cap p : Nat) (A : Option Addr) (n : Int) (w : World) (hR : Rd w B g A len cap p) (hn : 1 ≤ n) (hn2 : n ≤ 1000) (hp : p < len) :
    Calls Try.prog 47 #[.pointer (some ⟨g, 0, none⟩), .int .i64 n] w (Picked n w B g A len cap p) := by
  obtain ⟨b, o, z1, rfl, hb, hz1, h1, h2⟩ := hR.bytes p hp
  have c0 := hR.c0
  have c1 := hR.c1
  have f1 := hR.f1
  have hne : b ≠ g := by have := hR.big; omega
  have hl2 := hR.short
  have HR := Lib.hid hR
  clear hR
  have hlen : ((len : Int) == 0) = false := by simp; omega
  have hlt : decide (p < len) = true := by simp; omega
  have hlz : ¬ len = 0 := by omega
  have hnz : ¬ n = 0 := by omega
  have hn0 : decide (n < 1) = false := by simp; omega
  go_enter Try.func47, Try.ntmps47
  go_wp2_with fail
  go_ret
  obtain ⟨x, rfl⟩ := Int.eq_ofNat_of_zero_le h1
  obtain ⟨y, hy, hy2⟩ := rem_small x n hn
  exact Picked.mk HR.out y hy2 0 (ret_int (by first | exact hy | (rw [← hy, Int.tmod_eq_emod_of_nonneg (by omega)])))

set_option maxHeartbeats 1000000 in
set_option maxRecDepth 100000 in
theorem pick_none (B g cap p : Nat) (A : Option Addr) (n : Int) (w : World) (hR : Rd w B g A 0 cap p) (hn : 1 ≤ n) (hn2 : n ≤ 1000) (hp2 : p ≤ 1000000) :
    Calls Try.prog 47 #[.pointer (some ⟨g, 0, none⟩), .int .i64 n] w (Picked n w B g A 0 cap p) := by
  have c0 := hR.c0
  have c1 := hR.c1
  have f1 := hR.f1
  have HR := Lib.hid hR
  clear hR
  have hn0 : decide (n < 1) = false := by simp; omega
  go_enter Try.func47, Try.ntmps47
  go_wp2_with fail
  go_ret
  exact Picked.mk HR.out 0 (by omega) 0 rfl

/-- THE CONTRACT OF pick. -/
theorem pick_any {B g len cap p : Nat} {A : Option Addr} (n : Int) {w : World} (hR : Rd w B g A len cap p) (hn : 1 ≤ n) (hn2 : n ≤ 1000) (hp2 : p ≤ 1000000) :
    Calls Try.prog 47 #[.pointer (some ⟨g, 0, none⟩), .int .i64 n] w (Picked n w B g A len cap p) := by
  by_cases h0 : len = 0
  · subst h0; exact pick_none B g cap p A n w hR hn hn2 hp2
  · by_cases hp : p < len
    · exact pick_near B g len cap p A n w hR hn hn2 hp
    · exact pick_far B g len cap p A n w hR hn hn2 (by omega) (by omega) hp2

end Go.Proofs.Ytgpmodidpdjhkaa
