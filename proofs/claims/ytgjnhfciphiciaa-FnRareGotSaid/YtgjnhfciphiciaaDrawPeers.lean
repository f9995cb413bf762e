/- Contracts of the draws of the bits of peers: at most 7 peers, in memory of the call's own; the reader moves on. Condition: the code's bytes lie in memory. -/
import Derived.Test.YtgjnhfciphiciaaDrawBits
import Derived.Test.YtgjnhfciphiciaaPeers
import Derived.Test.YtgjnhfciphiciaaExactRow
import Derived.Deep.DeepCutAuto
import Derived.OwnWalk
namespace Go.Proofs.Ytgjnhfciphiciaa
open Go.RowKit
set_option linter.unusedVariables false

theorem bitsP_parts : ∃ i0, Try.prog.info? PK.e = some i0 ∧ i0.zero = some (.slice none 0 0) ∧ i0.size = PK.k ∧ i0.bytes = PK.by_ ∧ (Value.slice none 0 0).cells.size = PK.k := by
  obtain ⟨i0, hi0, hz0, hz1, hz2⟩ := info_parts (show (Try.prog.info? 28).map (fun i => (i.zero, i.size, i.bytes)) = some (some (.slice none 0 0), 1, 24) by kernel_rfl)
  exact ⟨i0, hi0, hz0, hz1, hz2, rfl⟩
theorem ownb_fit {w : World} {base : Nat} {A : Option Addr} {cap : Nat} {zs : List Bool} (h : OwnBools w base A cap zs) : zs.length ≤ cap ∧ cap ≤ maxLen := by
  rcases h.2 with ⟨hv, hn⟩ | ⟨g, c, cur, hv, _, _, h1, h2, _⟩
  · injection hv with _ _ hc; exact ⟨by omega, by omega⟩
  · injection hv with _ _ hc; subst hc; exact ⟨h1, h2⟩
theorem obk_lt {w : World} {base : Nat} {A : Option Addr} {cap : Nat} {zs : List Bool} (h : OwnBools w base A cap zs) : ∀ g, A = some ⟨g, 0, none⟩ → base ≤ g ∧ g < w.heap.size := by
  intro g hA
  subst hA
  exact World.ownsRow.lt h g rfl
theorem obk_block {w w' : World} {base : Nat} {A : Option Addr} {cap : Nat} {zs : List Bool} (h : OwnBools w base A cap zs) (hk : ∀ g, A = some ⟨g, 0, none⟩ → w'.heap[g]? = w.heap[g]?) : OwnBools w' base A cap zs := by
  refine ⟨h.1, ?_⟩
  rcases h.2 with h0 | ⟨g, c, cur, hv, hg, hgb, hr⟩
  · exact .inl h0
  · have hA : A = some ⟨g, 0, none⟩ := by injection hv
    exact .inr ⟨g, c, cur, hv, hg, (hk g hA).trans hgb, hr⟩
/-- A row of bools is no block of a row of slices. -/
theorem bits_apart {w : World} {base base' c d n : Nat} {X Y : Option Addr} {hs : List PH} {zs : List Bool} (k : OwnRow PK w base X c hs) (h : OwnBools w base' Y d zs) : ∀ y, Y = some ⟨y, 0, none⟩ → some y ≠ Value.ownBlock (.slice X n c) := by
  intro y hY e
  subst hY
  rcases k.2 with ⟨hv, _⟩ | ⟨x, c', cur, hv, _, hx, _⟩
  · have hX : X = none := by injection hv
    rw [hX] at e; cases e
  · have hX : X = some ⟨x, 0, none⟩ := by injection hv
    rw [hX] at e
    have hyx : y = x := by simpa [Value.ownBlock] using e
    subst hyx
    rcases h.2 with ⟨hv2, _⟩ | ⟨y', c2, cur2, hv2, _, hy, _⟩
    · injection hv2 with hA _ _; cases hA
    · have hyy : y = y' := by injection hv2 with hA _ _; injection hA with hA; injection hA
      subst hyy
      rw [hx] at hy
      injection hy with this
      injection this with _ ht
      exact absurd ht (by decide)

/-- Where the reader stands and what was drawn so far. -/
structure DrawP (w : World) (B g : Nat) (A : Option Addr) (len cap : Nat) (base : Nat) (X : Option Addr) (c : Nat) (hs : List PH) (p' : Nat) (w' : World) : Prop where
  own : OwnRow PK w' base X c hs
  bits : ∀ h ∈ hs, OwnBools w' base h.a h.c h.zs
  rd : Rd w' B g A len cap p'
  below : Below B w w'
  size : base ≤ w'.heap.size
  far : g < base
section
variable {w w1 w2 : World} {B g len cap base c p' p2 : Nat} {A X : Option Addr} {hs : List PH}
theorem DrawP.pick (h : DrawP w B g A len cap base X c hs p' w1) (hR : Rd w2 B g A len cap p2) (hg : w1.grownBy w2 (some g)) : DrawP w B g A len cap base X c hs p2 w2 :=
  ⟨h.own.keep hg (fun k hk => by injection hk with hk; have := h.far; omega), fun x hx => (h.bits x hx).keep hg (fun k hk => by injection hk with hk; have := h.far; omega), hR, h.below.trans ((Below.refl B w1).grown hg (by have := h.rd.lt; have := h.rd.big; omega) (fun k hk => by injection hk with hk; have := h.rd.big; omega)), Nat.le_trans h.size hg.size, h.far⟩
/-- Bits are drawn besides. -/
theorem DrawP.draw {Y : Option Addr} {d : Nat} {zs : List Bool} (h : DrawP w B g A len cap base X c hs p' w1) (hD : DrawingB w1 B g A len cap w1.heap.size Y d zs p2 w2) : DrawP w B g A len cap base X c hs p2 w2 ∧ OwnBools w2 base Y d zs := by
  refine ⟨⟨h.own.block fun y hy => ?_, fun x hx => obk_block (h.bits x hx) fun y hy => ?_, hD.rd, h.below.trans hD.below, Nat.le_trans h.size hD.size, h.far⟩, hD.own.base_le h.size⟩
  · have := h.own.lies y hy; have := h.far
    exact hD.kept y (by omega) (by omega)
  · have := obk_lt (h.bits x hx) y hy; have := h.far
    exact hD.kept y (by omega) (by omega)
/-- The bits are put to the peers'. -/
theorem DrawP.app {Y : Option Addr} {d : Nat} {zs : List Bool} {v : Value} (h : DrawP w B g A len cap base X c hs p' w1) (hn : OwnBools w1 base Y d zs) (hB : B ≤ base) (o : Obj) (hA : AppendedR PK (w1.alloc o) base X hs.length c (hs ++ [⟨Y, d, zs⟩]) v w2) :
    ∃ X' c', v = .slice X' (hs ++ [(⟨Y, d, zs⟩ : PH)]).length c' ∧ DrawP w B g A len cap base X' c' (hs ++ [⟨Y, d, zs⟩]) p' w2 := by
  obtain ⟨X', c', hv, hown⟩ := hA.own
  have hg := hA.grown
  have hr : ∀ k, Value.ownBlock (.slice X hs.length c) = some k → base ≤ k := fun k hk => h.own.far (n := hs.length) k hk
  have hkeep : ∀ {Z : Option Addr} {e : Nat} {ys : List Bool}, OwnBools w1 base Z e ys → OwnBools w2 base Z e ys := fun hz =>
    obk_block (hz.alloc o) fun y hy => hg.block y (obk_lt (hz.alloc o) y hy).2 (fun e => bits_apart (h.own.alloc o) (hz.alloc o) y hy e)
  refine ⟨X', c', hv, hown, fun x hx => ?_, (h.rd.alloc o).grown hg (fun k hk => by have := hr k hk; have := h.far; exact ⟨by omega, by omega⟩), (h.below.alloc (by have := h.rd.lt; have := h.rd.big; omega) o).trans (hA.below.mono hB), ?_, h.far⟩
  · rcases List.mem_append.1 hx with hx | hx
    · exact hkeep (h.bits x hx)
    · rw [List.mem_singleton.1 hx]; exact hkeep hn
  · have := hg.size
    have := h.size
    simp at *; omega
theorem DrawP.pat (h : DrawP w B g A len cap base X c hs p' w1) (hl : hs.length ≤ 7) : PAt w1 w1.heap.size X hs :=
  ⟨h.own.at_, fun x hx => (h.bits x hx).ints, fun x hx => ownb_fit (h.bits x hx), by unfold maxLen; omega⟩
theorem DrawP.new (hR : Rd w B g A len cap p') : DrawP w B g A len cap w.heap.size (some ⟨w.heap.size, 0, none⟩) 0 [] p' (w.alloc (.cells #[] 28)) :=
  ⟨OwnRow.new PK w, fun x hx => (by cases hx), hR.alloc _, (Below.refl _ _).alloc (rd_base hR).1 _, by simp, (rd_base hR).2⟩
end

def PeersDrawn (w : World) (B g : Nat) (A : Option Addr) (len cap p : Nat) (e : Ending) (w' : World) : Prop :=
  ∃ X c hs p', e = .returned (.slice X hs.length c) ∧ hs.length ≤ 7 ∧ p' ≤ p + 500 ∧ DrawP w B g A len cap w.heap.size X c hs p' w'

set_option maxHeartbeats 8000000 in
set_option maxRecDepth 100000 in
theorem peersdraw_any {B g len cap p : Nat} {A : Option Addr} {w : World} (hR : Rd w B g A len cap p) (hp : p ≤ 80000) :
    Calls Try.prog 29 #[.pointer (some ⟨g, 0, none⟩)] w (PeersDrawn w B g A len cap p) := by
  have HR := Lib.hid hR
  obtain ⟨hBw, hgw⟩ := rd_base hR
  obtain ⟨i0, hi0, hz0, hz1, hz2, hz3⟩ := bitsP_parts
  have HI0 : Hid (Try.prog.info? PK.e = some i0 ∧ i0.zero = some (.slice none 0 0) ∧ i0.size = PK.k ∧ i0.bytes = PK.by_ ∧ (Value.slice none 0 0).cells.size = PK.k) := ⟨hi0, hz0, hz1, hz2, hz3⟩
  clear hR hi0 hz0 hz1 hz2 hz3
  have HD0 := Lib.hid (DrawP.new HR.out)
  go_enter Try.func29, Try.ntmps29
  go_wp2_with fail
  refine (pick_any 6 (HR.out.alloc _) (by omega) (by omega) (by omega)).mono ?_
  rintro e w1 ⟨n0, hn0, rfl, hR1, hg1, hz1⟩
  have HD : Hid (DrawP w B g A len cap w.heap.size (some ⟨w.heap.size, 0, none⟩) 0 [] (p + 1) w1) := HD0.out.pick hR1 hg1
  clear hR1 hg1 hz1 HD0
  go_wp2_with fail
  refine (pick_any 16 HD.out.rd (by omega) (by omega) (by omega)).mono ?_
  rintro e w2 ⟨t, ht, rfl, hR2, hg2, hz2⟩
  have HD2 := Lib.hid (HD.out.pick hR2 hg2)
  clear hR2 hg2 hz2 HD
  by_cases ht0 : t = 0
  · subst ht0
    go_wp2_with fail
    refine (pick_any 2 HD2.out.rd (by omega) (by omega) (by omega)).mono ?_
    rintro e w3 ⟨a, ha, rfl, hR3, hg3, hz3⟩
    have HD3 := Lib.hid (HD2.out.pick hR3 hg3)
    clear hR3 hg3 hz3
    obtain ⟨n, hn7, HNN⟩ : ∃ n : Nat, n ≤ 7 ∧ Hid (6 + (a : Int) = (n : Int)) := ⟨6 + a, by omega, (by show _ = _; omega)⟩
    obtain ⟨pw, hpw, HD4⟩ : ∃ pw, pw ≤ p + 3 ∧ Hid (DrawP w B g A len cap w.heap.size (some ⟨w.heap.size, 0, none⟩) 0 [] pw w3) := ⟨_, by omega, HD3⟩
    clear HD2 HD3
    go_wp2_with fail
    rw [HNN.out]
    clear HNN ha
    go_loopw [3, 5] (fun x i w' => ∃ (X : Option Addr) (c : Nat) (hs : List PH) (k p' : Nat), k ≤ n ∧ x = .slice X k c ∧ i = .int .i64 (k : Int) ∧ Hid (hs.length = k) ∧ p' ≤ pw + 60 * k ∧ Hid (DrawP w B g A len cap w.heap.size X c hs p' w')) (fun _ i _ => n - (intOf i).toNat)
    case atStart => exact ⟨_, _, [], 0, pw, by omega, rfl, rfl, rfl, by omega, HD4⟩
    case round =>
      clear HD4
      obtain ⟨X, c, hs, k, p1, hk, rfl, rfl, HL, hp1, HD5⟩ := hrel
      by_cases hlt : k < n
      · have hki : (k : Int) < (n : Int) := by omega
        go_wp2_with fail
        refine (bitsdraw_any HD5.out.rd (by omega)).mono ?_
        rintro e w6 ⟨Y, d, zs, p6, rfl, hl6, hp6, hD6⟩
        have hd := HD5.out.draw hD6
        have HD6 := Lib.hid hd.1
        have HO6 := Lib.hid hd.2
        have hs6 := HD6.out.size
        clear hd hD6
        go_wp2_with (at_builtin; refine wpList_app_row (K := PK) Try.underlying23 HI0.out.1 HI0.out.2.1 HI0.out.2.2.1 HI0.out.2.2.2.1 HI0.out.2.2.2.2 (by decide) rfl (.tmp 20) (.tmp 23) rfl _ w.heap.size X c hs (by rw [HL.out]; rfl) _ _ [(⟨Y, d, zs⟩ : PH)] rfl (HD6.out.own.alloc _) (one_newR PK w6 ⟨Y, d, zs⟩ _) (by rw [HL.out]; show k + 1 ≤ 1000000; omega) (by rw [World.size_alloc]; omega) (fun e => by cases e) ?_; intro v w7 hA)
        obtain ⟨X', c', rfl, hD7⟩ := HD6.out.app HO6.out hBw _ hA
        have HD7 := Lib.hid hD7
        have hlen : (hs ++ [(⟨Y, d, zs⟩ : PH)]).length = k + 1 := by rw [List.length_append, HL.out]; rfl
        rw [hlen]
        have HL7 := Lib.hid hlen
        clear hA hD7 hlen
        go_wp2
        go_roundw
        case rel => exact ⟨X', c', _, k + 1, _, by omega, rfl, by go_num, HL7, by omega, HD7⟩
        case measure => simp [intOf]; omega
      · have hkn : k = n := by omega
        subst hkn
        go_wp2
        go_ret
        exact ⟨X, c, hs, _, by rw [HL.out]; rfl, by rw [HL.out]; omega, by omega, HD5.out⟩
  · have ht0' : ((t : Int) == 0) = false := by simp; omega
    obtain ⟨n, hn7, rfl⟩ : ∃ n : Nat, n ≤ 7 ∧ n = n0 := ⟨n0, by omega, rfl⟩
    obtain ⟨pw, hpw, HD4⟩ : ∃ pw, pw ≤ p + 3 ∧ Hid (DrawP w B g A len cap w.heap.size (some ⟨w.heap.size, 0, none⟩) 0 [] pw w2) := ⟨_, by omega, HD2⟩
    clear HD2 ht0
    go_wp2_with fail
    go_loopw [3, 5] (fun x i w' => ∃ (X : Option Addr) (c : Nat) (hs : List PH) (k p' : Nat), k ≤ n ∧ x = .slice X k c ∧ i = .int .i64 (k : Int) ∧ Hid (hs.length = k) ∧ p' ≤ pw + 60 * k ∧ Hid (DrawP w B g A len cap w.heap.size X c hs p' w')) (fun _ i _ => n - (intOf i).toNat)
    case atStart => exact ⟨_, _, [], 0, pw, by omega, rfl, rfl, rfl, by omega, HD4⟩
    case round =>
      clear HD4
      obtain ⟨X, c, hs, k, p1, hk, rfl, rfl, HL, hp1, HD5⟩ := hrel
      by_cases hlt : k < n
      · have hki : (k : Int) < (n : Int) := by omega
        go_wp2_with fail
        refine (bitsdraw_any HD5.out.rd (by omega)).mono ?_
        rintro e w6 ⟨Y, d, zs, p6, rfl, hl6, hp6, hD6⟩
        have hd := HD5.out.draw hD6
        have HD6 := Lib.hid hd.1
        have HO6 := Lib.hid hd.2
        have hs6 := HD6.out.size
        clear hd hD6
        go_wp2_with (at_builtin; refine wpList_app_row (K := PK) Try.underlying23 HI0.out.1 HI0.out.2.1 HI0.out.2.2.1 HI0.out.2.2.2.1 HI0.out.2.2.2.2 (by decide) rfl (.tmp 20) (.tmp 23) rfl _ w.heap.size X c hs (by rw [HL.out]; rfl) _ _ [(⟨Y, d, zs⟩ : PH)] rfl (HD6.out.own.alloc _) (one_newR PK w6 ⟨Y, d, zs⟩ _) (by rw [HL.out]; show k + 1 ≤ 1000000; omega) (by rw [World.size_alloc]; omega) (fun e => by cases e) ?_; intro v w7 hA)
        obtain ⟨X', c', rfl, hD7⟩ := HD6.out.app HO6.out hBw _ hA
        have HD7 := Lib.hid hD7
        have hlen : (hs ++ [(⟨Y, d, zs⟩ : PH)]).length = k + 1 := by rw [List.length_append, HL.out]; rfl
        rw [hlen]
        have HL7 := Lib.hid hlen
        clear hA hD7 hlen
        go_wp2
        go_roundw
        case rel => exact ⟨X', c', _, k + 1, _, by omega, rfl, by go_num, HL7, by omega, HD7⟩
        case measure => simp [intOf]; omega
      · have hkn : k = n := by omega
        subst hkn
        go_wp2
        go_ret
        exact ⟨X, c, hs, _, by rw [HL.out]; rfl, by rw [HL.out]; omega, by omega, HD5.out⟩

/-- The bits of peers and a number. -/
def PeersAnd (w : World) (e : Ending) (w' : World) : Prop :=
  ∃ (X : Option Addr) (c : Nat) (hs : List PH) (b : Int), e = .returned (.tuple #[.slice X hs.length c, .int .i64 b]) ∧ hs.length ≤ 7 ∧ -100 ≤ b ∧ b ≤ 100 ∧ PAt w' w'.heap.size X hs ∧ Below w.heap.size w w'
/-- The bits of peers and own bits. -/
def PeersMine (w : World) (e : Ending) (w' : World) : Prop :=
  ∃ (X : Option Addr) (c : Nat) (hs : List PH) (Y : Option Addr) (d : Nat) (mine : List Bool), e = .returned (.tuple #[.slice X hs.length c, .slice Y mine.length d]) ∧ hs.length ≤ 7 ∧ mine.length ≤ 18 ∧ PAt w' w'.heap.size X hs ∧ OwnBools w' w.heap.size Y d mine ∧ Below w.heap.size w w'
/-- The bits of peers, own bits and a peer. -/
def PeersPick (w : World) (e : Ending) (w' : World) : Prop :=
  ∃ (X : Option Addr) (c : Nat) (hs : List PH) (Y : Option Addr) (d : Nat) (mine : List Bool) (b : Int), e = .returned (.tuple #[.slice X hs.length c, .slice Y mine.length d, .int .i64 b]) ∧ hs.length ≤ 7 ∧ mine.length ≤ 18 ∧ -100 ≤ b ∧ b ≤ 100 ∧ PAt w' w'.heap.size X hs ∧ OwnBools w' w.heap.size Y d mine ∧ Below w.heap.size w w'

theorem quo_small (a n : Nat) (hn : 0 < n) (h : (a : Int) < (n : Int) + 1) : ∃ q : Nat, (a : Int).tdiv (n : Int) = (q : Int) ∧ q ≤ 1 := by
  refine ⟨a / n, tdiv_nat a n, ?_⟩
  have h1 : a ≤ n := by omega
  calc a / n ≤ n / n := Nat.div_le_div_right h1
    _ = 1 := Nat.div_self hn


set_option maxHeartbeats 4000000 in
set_option maxRecDepth 100000 in
theorem drawRareCount_any (A : Option Addr) (len cap : Nat) (w : World) (hI : In w A len cap) :
    Calls Try.prog 13 #[.slice A len cap] w (PeersAnd w) := by
  have HI := Lib.hid hI
  clear hI
  go_enter Try.func13, Try.ntmps13
  go_wp2_with fail
  refine (open_any A len cap _ HI.out).mono ?_
  rintro e w1 ⟨len', cap', rfl, hR1, hb1⟩
  have HR1 := Lib.hid hR1
  have HB1 := Lib.hid hb1
  clear hR1 hb1
  go_wp2_with fail
  refine (peersdraw_any HR1.out (by omega)).mono ?_
  rintro e w2 ⟨X, c, hs, p2, rfl, hl7, hp2, hD2⟩
  have HD2 := Lib.hid hD2
  clear hD2
  go_wp2_with fail
  refine (pick_any 16 HD2.out.rd (by omega) (by omega) (by omega)).mono ?_
  rintro e w3 ⟨x3, hx3, rfl, hR3, hg3, hz3⟩
  have HD3 := Lib.hid (HD2.out.pick hR3 hg3)
  clear hR3 hg3 hz3 HD2
  go_wp2_with fail
  refine (pick_any 20 HD3.out.rd (by omega) (by omega) (by omega)).mono ?_
  rintro e w4 ⟨x4, hx4, rfl, hR4, hg4, hz4⟩
  have HD4 := Lib.hid (HD3.out.pick hR4 hg4)
  obtain ⟨q4, hq4, hq41⟩ := quo_small x4 19 (by omega) hx4
  have hq4' : (x4 : Int).tdiv 19 = (q4 : Int) := hq4
  clear hR4 hg4 hz4 HD3 hq4
  go_wp2_with fail
  refine (pick_any 20 HD4.out.rd (by omega) (by omega) (by omega)).mono ?_
  rintro e w5 ⟨x5, hx5, rfl, hR5, hg5, hz5⟩
  have HD5 := Lib.hid (HD4.out.pick hR5 hg5)
  obtain ⟨q5, hq5, hq51⟩ := quo_small x5 19 (by omega) hx5
  have hq5' : (x5 : Int).tdiv 19 = (q5 : Int) := hq5
  clear hR5 hg5 hz5 HD4 hq5
  go_wp2
  go_ret2
  exact ⟨X, c, hs, (x3 : Int) + (q4 : Int) - (q5 : Int) * 2, rfl, hl7, by omega, by omega, HD5.out.pat hl7, HB1.out.trans (HD5.out.below.mono (Nat.le_refl _))⟩

set_option maxHeartbeats 4000000 in
set_option maxRecDepth 100000 in
theorem drawRareOrder_any (A : Option Addr) (len cap : Nat) (w : World) (hI : In w A len cap) :
    Calls Try.prog 17 #[.slice A len cap] w (PeersMine w) := by
  have HI := Lib.hid hI
  clear hI
  go_enter Try.func17, Try.ntmps17
  go_wp2_with fail
  refine (open_any A len cap _ HI.out).mono ?_
  rintro e w1 ⟨len', cap', rfl, hR1, hb1⟩
  have HR1 := Lib.hid hR1
  have HB1 := Lib.hid hb1
  clear hR1 hb1
  go_wp2_with fail
  refine (peersdraw_any HR1.out (by omega)).mono ?_
  rintro e w2 ⟨X, c, hs, p2, rfl, hl7, hp2, hD2⟩
  have HD2 := Lib.hid hD2
  clear hD2
  go_wp2_with fail
  refine (bitsdraw_any HD2.out.rd (by omega)).mono ?_
  rintro e w3 ⟨Y, d, zs, p3, rfl, hl3, hp3, hD3⟩
  have hd := HD2.out.draw hD3
  have HD3 := Lib.hid hd.1
  have HO3 : Hid (OwnBools w3 w.heap.size Y d zs) := hd.2.base_le HB1.out.size
  clear hd hD3
  go_wp2
  go_ret2
  exact ⟨X, c, hs, Y, d, zs, rfl, hl7, hl3, HD3.out.pat hl7, HO3.out, HB1.out.trans HD3.out.below⟩

set_option maxHeartbeats 4000000 in
set_option maxRecDepth 100000 in
theorem drawRarePick_any (A : Option Addr) (len cap : Nat) (w : World) (hI : In w A len cap) :
    Calls Try.prog 22 #[.slice A len cap] w (PeersPick w) := by
  have HI := Lib.hid hI
  clear hI
  go_enter Try.func22, Try.ntmps22
  go_wp2_with fail
  refine (open_any A len cap _ HI.out).mono ?_
  rintro e w1 ⟨len', cap', rfl, hR1, hb1⟩
  have HR1 := Lib.hid hR1
  have HB1 := Lib.hid hb1
  clear hR1 hb1
  go_wp2_with fail
  refine (peersdraw_any HR1.out (by omega)).mono ?_
  rintro e w2 ⟨X, c, hs, p2, rfl, hl7, hp2, hD2⟩
  have HD2 := Lib.hid hD2
  clear hD2
  go_wp2_with fail
  refine (bitsdraw_any HD2.out.rd (by omega)).mono ?_
  rintro e w3 ⟨Y, d, zs, p3, rfl, hl3, hp3, hD3⟩
  have hd := HD2.out.draw hD3
  have HD3 := Lib.hid hd.1
  have HO3 : Hid (OwnBools w3 w1.heap.size Y d zs) := hd.2
  have HFR := hD3.far
  clear hd hD3
  obtain ⟨n, HN⟩ : ∃ n, Hid (hs.length = n) := ⟨_, rfl⟩
  obtain ⟨mx, HMX⟩ : ∃ m : Nat, Hid (m = max n 1) := ⟨_, rfl⟩
  have hmx1 : 1 ≤ mx ∧ mx ≤ 8 := by have := HMX.out; rw [HN.out] at hl7; omega
  rw [HN.out] at hl7
  rw [HN.out]
  by_cases hn1 : 1 < n
  · have hn1i : (1 : Int) < (n : Int) := by omega
    have hn1j : ¬ (n : Int) ≤ 1 := by omega
    have hn1k : (1 : Int) ≤ (n : Int) := by omega
    go_wp2_with fail
    refine (pick_any _ HD3.out.rd (by omega) (by omega) (by omega)).mono ?_
    rintro e w4 ⟨x4, hx4, rfl, hR4, hg4, hz4⟩
    have HD4 := Lib.hid (HD3.out.pick hR4 hg4)
    have HO4 := Lib.hid (HO3.out.keep hg4 (fun k hk => by injection hk with hk; have := HD2.out.far; omega))
    clear hR4 hg4 hz4 HD3 HO3
    go_wp2_with fail
    refine (pick_any 16 HD4.out.rd (by omega) (by omega) (by omega)).mono ?_
    rintro e w5 ⟨x5, hx5, rfl, hR5, hg5, hz5⟩
    have HD5 := Lib.hid (HD4.out.pick hR5 hg5)
    have HO5 := Lib.hid (HO4.out.keep hg5 (fun k hk => by injection hk with hk; have := HD2.out.far; omega))
    obtain ⟨q5, hq5, hq51⟩ := quo_small x5 15 (by omega) hx5
    have hq5' : (x5 : Int).tdiv 15 = (q5 : Int) := hq5
    clear hR5 hg5 hz5 HD4 hq5 HO4
    go_wp2_with fail
    refine (pick_any 16 HD5.out.rd (by omega) (by omega) (by omega)).mono ?_
    rintro e w6 ⟨x6, hx6, rfl, hR6, hg6, hz6⟩
    have HD6 := Lib.hid (HD5.out.pick hR6 hg6)
    have HO6 := Lib.hid (HO5.out.keep hg6 (fun k hk => by injection hk with hk; have := HD2.out.far; omega))
    obtain ⟨q6, hq6, hq61⟩ := quo_small x6 15 (by omega) hx6
    have hq6' : (x6 : Int).tdiv 15 = (q6 : Int) := hq6
    clear hR6 hg6 hz6 HD5 hq6 HO5
    go_wp2
    go_ret3
    exact ⟨X, c, hs, Y, d, zs, (x4 : Int) + (q5 : Int) - (q6 : Int) * 2, by rw [HN.out]; rfl, by rw [HN.out]; exact hl7, hl3, by omega, by omega, HD6.out.pat (by rw [HN.out]; exact hl7), HO6.out.base_le HB1.out.size, HB1.out.trans HD6.out.below⟩
  · have hn1i : (n : Int) ≤ 1 := by omega
    have hn1j : ¬ (1 : Int) < (n : Int) := by omega
    go_wp2_with fail
    refine (pick_any _ HD3.out.rd (by omega) (by omega) (by omega)).mono ?_
    rintro e w4 ⟨x4, hx4, rfl, hR4, hg4, hz4⟩
    have HD4 := Lib.hid (HD3.out.pick hR4 hg4)
    have HO4 := Lib.hid (HO3.out.keep hg4 (fun k hk => by injection hk with hk; have := HD2.out.far; omega))
    clear hR4 hg4 hz4 HD3 HO3
    go_wp2_with fail
    refine (pick_any 16 HD4.out.rd (by omega) (by omega) (by omega)).mono ?_
    rintro e w5 ⟨x5, hx5, rfl, hR5, hg5, hz5⟩
    have HD5 := Lib.hid (HD4.out.pick hR5 hg5)
    have HO5 := Lib.hid (HO4.out.keep hg5 (fun k hk => by injection hk with hk; have := HD2.out.far; omega))
    obtain ⟨q5, hq5, hq51⟩ := quo_small x5 15 (by omega) hx5
    have hq5' : (x5 : Int).tdiv 15 = (q5 : Int) := hq5
    clear hR5 hg5 hz5 HD4 hq5 HO4
    go_wp2_with fail
    refine (pick_any 16 HD5.out.rd (by omega) (by omega) (by omega)).mono ?_
    rintro e w6 ⟨x6, hx6, rfl, hR6, hg6, hz6⟩
    have HD6 := Lib.hid (HD5.out.pick hR6 hg6)
    have HO6 := Lib.hid (HO5.out.keep hg6 (fun k hk => by injection hk with hk; have := HD2.out.far; omega))
    obtain ⟨q6, hq6, hq61⟩ := quo_small x6 15 (by omega) hx6
    have hq6' : (x6 : Int).tdiv 15 = (q6 : Int) := hq6
    clear hR6 hg6 hz6 HD5 hq6 HO5
    go_wp2
    go_ret3
    exact ⟨X, c, hs, Y, d, zs, (x4 : Int) + (q5 : Int) - (q6 : Int) * 2, by rw [HN.out]; rfl, by rw [HN.out]; exact hl7, hl3, by omega, by omega, HD6.out.pat (by rw [HN.out]; exact hl7), HO6.out.base_le HB1.out.size, HB1.out.trans HD6.out.below⟩

end Go.Proofs.Ytgjnhfciphiciaa
