/- Contract of DrawRareWhole: the bits of peers, some of them replaced, and a length. Condition: the code's bytes lie in memory. -/
import Derived.Test.YtgjnhfciphiciaaDrawPeers
namespace Go.Proofs.Ytgjnhfciphiciaa
open Go.RowKit
set_option linter.unusedVariables false

def six : List Bool := [true, true, true, true, true, true]
def sixC : Obj := .cells #[.bool true, .bool true, .bool true, .bool true, .bool true, .bool true] 4
theorem six_made (w : World) : OwnBools (w.alloc sixC) w.heap.size (some ⟨w.heap.size, 0, none⟩) 6 six :=
  World.ownsRow_lit (e := 4) (size := 1) w (bals six).toArray 6 (Nat.le_refl _) (by unfold maxLen; omega) rfl
section
variable {w w1 : World} {B g len cap base c p' x : Nat} {A : Option Addr} {hs : List PH}
theorem DrawP.cellF (h : DrawP w B g A len cap base (some ⟨x, 0, none⟩) c hs p' w1) (o : Obj) (i : Nat) (hi : i < hs.length) : (w1.alloc o).cell? ⟨x, i, none⟩ = some (.slice (hth hs i).a (hth hs i).zs.length (hth hs i).c) ∧ (w1.alloc o).frozen? ⟨x, i, none⟩ = false := by
  have := (h.own.alloc o).cellF i (hth hs i) (hth_get hs i hi) 0 _ rfl
  have e0 : i * PK.k + 0 = i := by show i * 1 + 0 = _; omega
  rw [e0] at this
  exact this
theorem DrawP.put (h : DrawP w B g A len cap base (some ⟨x, 0, none⟩) c hs p' w1) (hB : B ≤ base) (i : Nat) (hi : i < hs.length) :
    DrawP w B g A len cap base (some ⟨x, 0, none⟩) c (hs.set i ⟨some ⟨w1.heap.size, 0, none⟩, 6, six⟩) p' ((w1.alloc sixC).setCell ⟨x, i, none⟩ (.slice (some ⟨w1.heap.size, 0, none⟩) 6 6)) := by
  have hs0 := (h.own.alloc sixC).stored i (hth hs i) ⟨some ⟨w1.heap.size, 0, none⟩, 6, six⟩ (hth_get hs i hi) 0 (by decide) (.slice (some ⟨w1.heap.size, 0, none⟩) 6 6) rfl
  have e0 : i * PK.k + 0 = i := by show i * 1 + 0 = _; omega
  rw [e0] at hs0
  have hx := h.own.lies x rfl
  have hf := h.far
  have hbg := h.rd.big
  have hsz := h.size
  refine ⟨hs0.1, fun y hy => ?_, (h.rd.alloc _).setOther (by show B ≤ x; omega) (by show x ≠ g; omega) _, (h.below.alloc (by omega) _).setCell (p := ⟨x, i, none⟩) (by show B ≤ x; omega) _, ?_, hf⟩
  · rcases List.mem_or_eq_of_mem_set hy with hy | rfl
    · have hk := (h.bits y hy).alloc sixC
      exact obk_block hk fun z hz => hs0.2.block z (obk_lt hk z hz).2 (fun e => bits_apart (n := 0) (h.own.alloc sixC) hk z hz (by simpa [Value.ownBlock] using e))
    · exact (obk_block (six_made w1) fun z hz => by
        injection hz with hz; injection hz with hz; subst hz
        exact hs0.2.block w1.heap.size (by simp) (fun e => by injection e with e; omega)).base_le hsz
  · have := hs0.2.size
    simp at *; omega
end

set_option maxHeartbeats 8000000 in
set_option maxRecDepth 100000 in
theorem drawRareWhole_any (A : Option Addr) (len cap : Nat) (w : World) (hI : In w A len cap) :
    Calls Try.prog 25 #[.slice A len cap] w (PeersAnd w) := by
  have HI := Lib.hid hI
  clear hI
  go_enter Try.func25, Try.ntmps25
  go_wp2_with fail
  refine (open_any A len cap _ HI.out).mono ?_
  rintro e w1 ⟨len', cap', rfl, hR1, hb1⟩
  have HR1 := Lib.hid hR1
  have HB1 := Lib.hid hb1
  clear hR1 hb1
  go_wp2_with fail
  refine (peersdraw_any HR1.out (by omega)).mono ?_
  rintro e w2 ⟨X, c, hs, p2, rfl, hl7, hp2, hD2⟩
  have HD2 := Lib.hid hD2
  clear hD2
  have hBb : w.heap.size ≤ w1.heap.size := HB1.out.size
  obtain ⟨n, HN⟩ : ∃ n, Hid (hs.length = n) := ⟨_, rfl⟩
  rw [HN.out] at hl7 ⊢
  go_wp2
  go_loopw [6] (fun i w' => ∃ (k p' : Nat) (hs' : List PH), k ≤ n ∧ i = .int .i64 (k : Int) ∧ p' ≤ p2 + k ∧ Hid (hs'.length = n) ∧ Hid (DrawP w1 w.heap.size w.heap.size A len' cap' w1.heap.size X c hs' p' w')) (fun i _ => n - (intOf i).toNat)
  case atStart => exact ⟨0, p2, hs, Nat.zero_le _, rfl, by omega, HN, HD2⟩
  case round =>
    clear HD2 HN
    obtain ⟨k, p3, hs', hk, rfl, hp3, HN, HD⟩ := hrel
    by_cases hlt : k < n
    · have hki : (k : Int) < (n : Int) := by omega
      have hkz : k < hs'.length := by rw [HN.out]; exact hlt
      go_wp2_with fail
      refine (pick_any 3 HD.out.rd (by omega) (by omega) (by omega)).mono ?_
      rintro e w4 ⟨x4, hx4, rfl, hR4, hg4, hz4⟩
      have HD4 := Lib.hid (HD.out.pick hR4 hg4)
      clear hR4 hg4 hz4 HD
      by_cases h0 : x4 = 0
      · subst h0
        obtain ⟨x, hX, _⟩ := HD4.out.own.form (by omega)
        subst hX
        obtain ⟨hcx, hfx⟩ := HD4.out.cellF sixC k hkz
        have HD5 := Lib.hid (HD4.out.put hBb k hkz)
        have HN5 : Hid ((hs'.set k ⟨some ⟨w4.heap.size, 0, none⟩, 6, six⟩).length = n) := by show _ = _; rw [List.length_set]; exact HN.out
        have hxw : x < w4.heap.size := (HD4.out.own.lies x rfl).2
        rw [World.setCell_alloc_past sixC x k _ hxw] at HD5
        unfold sixC at hcx hfx HD5
        clear HD4 hkz
        go_wp2
        go_roundw
        case rel => exact ⟨k + 1, p3 + 1, _, by omega, by go_num, by omega, HN5, HD5⟩
        case measure => simp [intOf]; omega
      · have h0' : ((x4 : Int) == 0) = false := by simp; omega
        clear hkz
        go_wp2
        go_roundw
        case rel => exact ⟨k + 1, _, hs', by omega, by go_num, by omega, HN, HD4⟩
        case measure => simp [intOf]; omega
    · have hkn : k = n := by omega
      subst hkn
      go_wp2_with fail
      refine (pick_any 8 HD.out.rd (by omega) (by omega) (by omega)).mono ?_
      rintro e w4 ⟨x4, hx4, rfl, hR4, hg4, hz4⟩
      have HD4 := Lib.hid (HD.out.pick hR4 hg4)
      clear hR4 hg4 hz4 HD
      go_wp2_with fail
      refine (pick_any 16 HD4.out.rd (by omega) (by omega) (by omega)).mono ?_
      rintro e w5 ⟨x5, hx5, rfl, hR5, hg5, hz5⟩
      have HD5 := Lib.hid (HD4.out.pick hR5 hg5)
      obtain ⟨q5, hq5, hq51⟩ := quo_small x5 15 (by omega) hx5
      have hq5' : (x5 : Int).tdiv 15 = (q5 : Int) := hq5
      clear hR5 hg5 hz5 HD4 hq5
      go_wp2_with fail
      refine (pick_any 20 HD5.out.rd (by omega) (by omega) (by omega)).mono ?_
      rintro e w6 ⟨x6, hx6, rfl, hR6, hg6, hz6⟩
      have HD6 := Lib.hid (HD5.out.pick hR6 hg6)
      obtain ⟨q6, hq6, hq61⟩ := quo_small x6 19 (by omega) hx6
      have hq6' : (x6 : Int).tdiv 19 = (q6 : Int) := hq6
      clear hR6 hg6 hz6 HD5 hq6
      go_wp2
      go_ret2
      exact ⟨X, c, hs', (x4 : Int) + (q5 : Int) * 9 - (q6 : Int), by rw [HN.out]; rfl, by rw [HN.out]; exact hl7, by omega, by omega, HD6.out.pat (by rw [HN.out]; exact hl7), HB1.out.trans HD6.out.below⟩

end Go.Proofs.Ytgjnhfciphiciaa
