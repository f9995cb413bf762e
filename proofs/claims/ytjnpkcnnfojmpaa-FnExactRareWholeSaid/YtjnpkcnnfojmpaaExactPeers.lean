/- Contracts of the exact laws' helpers over the bits of peers: the size, the copy, the comparison of equal ones, the marks. Conditions: the bits lie in memory; copied are at most 2^20. -/
import Derived.Test.YtjnpkcnnfojmpaaPeers
import Derived.Test.YtjnpkcnnfojmpaaExactRow
import Derived.Test.YtjnpkcnnfojmpaaBaseD
import Derived.Deep.QuietTactic
import Derived.BigQuiet
namespace Go.Proofs.Ytjnpkcnnfojmpaa
open Go.RowKit
set_option linter.unusedVariables false

/-- How many bits there are. -/
def totB (ps : List (List Bool)) : Nat := (ps.map List.length).sum
theorem totB_append (a b : List (List Bool)) : totB (a ++ b) = totB a + totB b := by unfold totB; rw [List.map_append, List.sum_append]
theorem totB_take (ps : List (List Bool)) (k : Nat) (h : k < ps.length) : totB (ps.take (k + 1)) = totB (ps.take k) + (pth ps k).length := by
  rw [take_pth ps k h, totB_append]
  simp [totB]
theorem totB_le (ps : List (List Bool)) (k : Nat) : totB (ps.take k) ≤ totB ps := by
  have h := totB_append (ps.take k) (ps.drop k)
  rw [List.take_append_drop] at h
  omega
/-- Few peers with few bits. -/
def FewB (ps : List (List Bool)) : Prop := ps.length + totB ps ≤ 1048576
theorem FewB.one {ps : List (List Bool)} (h : FewB ps) (k : Nat) (hk : k < ps.length) : (pth ps k).length ≤ 1048576 := by
  have h1 := totB_take ps k hk
  have h2 := totB_le ps (k + 1)
  unfold FewB at h
  omega

set_option maxHeartbeats 2000000 in
theorem szBits_yes (A : Option Addr) (n cap : Nat) (left : Int) (w : World) (h : (n : Int) ≤ left) (h1 : left ≤ 1048576) :
    Calls Try.prog 25 #[.slice A n cap, .int .i64 left] w fun e w' => e = .returned (.int .i64 (left - n)) ∧ w' = w := by
  go_enter Try.func25, Try.ntmps25
  go_wp2
  go_ret
  exact ⟨rfl, rfl⟩
set_option maxHeartbeats 2000000 in
theorem szBits_no (A : Option Addr) (n cap : Nat) (left : Int) (w : World) (hm : n ≤ maxLen) (h : ¬ (n : Int) ≤ left) (h0 : 0 ≤ left) (h1 : left ≤ 1048576) :
    Calls Try.prog 25 #[.slice A n cap, .int .i64 left] w fun e w' => e = .returned (.int .i64 (-1)) ∧ w' = w := by
  unfold maxLen at hm
  go_enter Try.func25, Try.ntmps25
  go_wp2
  go_ret
  exact ⟨rfl, rfl⟩

set_option maxHeartbeats 4000000 in
theorem szPeers_any (A : Option Addr) (cap : Nat) (hs : List PH) (w : World) (B : Nat) (hP : PAt w B A hs) :
    Calls Try.prog 7 #[.slice A hs.length cap, .int .i64 1048576] w fun e w' => ∃ r : Int, e = .returned (.int .i64 r) ∧ -1 ≤ r ∧ (0 ≤ r → FewB (pz hs)) ∧ w' = w := by
  have hmx := hP.most
  unfold maxLen at hmx
  have HP := Lib.hid hP
  have HZ0 : Hid ((pz hs).length = hs.length) := pz_length hs
  obtain ⟨n, HN⟩ : ∃ n, Hid (hs.length = n) := ⟨_, rfl⟩
  rw [HN.out] at hmx HZ0 ⊢
  clear hP
  by_cases hl : (n : Int) ≤ 1048576
  · go_enter Try.func7, Try.ntmps7
    go_wp2
    go_loopw [1, 5] (fun x i w' => ∃ (k r : Nat), k ≤ n ∧ i = .int .i64 (k : Int) ∧ x = .int .i64 (r : Int) ∧ r ≤ 1048576 ∧ Hid (n + totB ((pz hs).take k) + r = 1048576) ∧ Hid (w' = w)) (fun _ i _ => n - (intOf i).toNat)
    case atStart => exact ⟨0, 1048576 - n, Nat.zero_le _, rfl, by go_num, by omega, (by show n + 0 + _ = _; omega), (by first | exact Lib.hid trivial | exact Lib.hid rfl)⟩
    case round =>
      obtain ⟨k, r, hk, rfl, rfl, hr1, HA, HW⟩ := hrel
      have hw : wr = w := HW.out
      subst hw
      clear HW
      by_cases hlt : k < n
      · have hqz : k < hs.length := by rw [HN.out]; exact hlt
        obtain ⟨b, o, rfl, _, hc⟩ := HP.out.cell k hqz
        have hfit := HP.out.fit _ (hth_mem hs k hqz)
        have htk := totB_take (pz hs) k (by rw [HZ0.out]; exact hlt)
        rw [pth_pz] at htk
        obtain ⟨m, HM⟩ : ∃ m, Hid ((hth hs k).zs.length = m) := ⟨_, rfl⟩
        rw [HM.out] at hc hfit htk
        have hmm : m ≤ maxLen := Nat.le_trans hfit.1 hfit.2
        have hki : (k : Int) < (n : Int) := by omega
        by_cases hq : (m : Int) ≤ (r : Int)
        · have C := Lib.hid (szBits_yes (hth hs k).a m (hth hs k).c r wr hq (by omega))
          have HA' : Hid (n + totB ((pz hs).take (k + 1)) + (r - m) = 1048576) := by show _ = _; have := HA.out; omega
          obtain ⟨h, HH⟩ : ∃ h, Hid (hth hs k = h) := ⟨_, rfl⟩
          rw [HH.out] at C hc
          obtain ⟨ha, hcp, hz⟩ := h
          clear hqz hfit htk hmm
          go_wp2_with fail
          refine C.out.mono ?_
          rintro e w1 ⟨rfl, rfl⟩
          have hnn : ¬ ((r : Int) - (m : Int) < 0) := by omega
          go_wp2
          go_roundw
          case rel => exact ⟨k + 1, r - m, by omega, by go_num, by go_num, by omega, HA', (by first | exact Lib.hid trivial | exact Lib.hid rfl)⟩
          case measure => simp [intOf]; omega
        · have C := Lib.hid (szBits_no (hth hs k).a m (hth hs k).c r wr hmm hq (by omega) (by omega))
          obtain ⟨h, HH⟩ : ∃ h, Hid (hth hs k = h) := ⟨_, rfl⟩
          rw [HH.out] at C hc
          obtain ⟨ha, hcp, hz⟩ := h
          clear hqz hfit htk hmm
          go_wp2_with fail
          refine C.out.mono ?_
          rintro e w1 ⟨rfl, rfl⟩
          go_wp2
          go_ret
          exact ⟨-1, rfl, by omega, fun h => by omega, rfl⟩
      · have hkn : k = n := by omega
        subst hkn
        have HE : Hid (FewB (pz hs)) := by
          show _ ≤ _
          have h := HA.out
          rw [List.take_of_length_le (by rw [HZ0.out]; exact Nat.le_refl _)] at h
          rw [HZ0.out]; omega
        go_wp2
        go_ret
        exact ⟨r, rfl, by omega, fun _ => HE.out, rfl⟩
  · go_enter Try.func7, Try.ntmps7
    go_wp2
    go_ret
    exact ⟨-1, rfl, by omega, fun h => by omega, rfl⟩

set_option maxHeartbeats 4000000 in
set_option maxRecDepth 100000 in
theorem eqPeers_any (A : Option Addr) (cap : Nat) (hs : List PH) (A1 : Option Addr) (cap1 : Nat) (gs : List PH) (w : World) (hP : PAt w w.heap.size A hs) (hQ : PAt w w.heap.size A1 gs) (he : pz gs = pz hs) :
    Calls Try.prog 11 #[.slice A hs.length cap, .slice A1 gs.length cap1] w fun e w' => e = .returned (.bool true) ∧ ∃ q, w' = w.drewN q := by
  have hmx := hP.most
  unfold maxLen at hmx
  have HP := Lib.hid hP
  have HQ := Lib.hid hQ
  have hl : gs.length = hs.length := by rw [← pz_length gs, ← pz_length hs, he]
  have HZ : Hid (∀ i, (hth gs i).zs = (hth hs i).zs) := fun i => by rw [← pth_pz gs i, ← pth_pz hs i, he]
  obtain ⟨n, HN⟩ : ∃ n, Hid (hs.length = n) := ⟨_, rfl⟩
  have HN1 : Hid (gs.length = n) := by show _ = _; rw [hl]; exact HN.out
  rw [HN.out] at hmx ⊢
  rw [HN1.out]
  clear hP hQ hl he
  go_enter Try.func11, Try.ntmps11
  go_wp2
  go_loopw [5] (fun i w' => ∃ k s : Nat, k ≤ n ∧ i = .int .i64 k ∧ w' = w.drewN s) (fun i _ => n - (intOf i).toNat)
  case atStart => exact ⟨0, 0, Nat.zero_le _, rfl, rfl⟩
  case round =>
    obtain ⟨k, s, hk, rfl, rfl⟩ := hrel
    by_cases hlt : k < n
    · have hqz : k < hs.length := by rw [HN.out]; exact hlt
      have hqz1 : k < gs.length := by rw [HN1.out]; exact hlt
      obtain ⟨b, o, rfl, _, hc⟩ := HP.out.cell k hqz
      obtain ⟨b1, o1, rfl, _, hc1⟩ := HQ.out.cell k hqz1
      have hfit := HP.out.fit _ (hth_mem hs k hqz)
      have C : Hid (∀ r, Calls Try.prog 16 #[.slice (hth hs k).a (hth hs k).zs.length (hth hs k).c, .slice (hth gs k).a (hth gs k).zs.length (hth gs k).c] (w.drewN r) fun e w' => e = .returned (.bool true) ∧ ∃ q, w' = (w.drewN r).drewN q) := fun r => by
        have hI : BoolsAt (w.drewN r) (w.drewN r).heap.size (hth hs k).a (hth hs k).zs := HP.out.one k hqz
        have hJ : BoolsAt (w.drewN r) (w.drewN r).heap.size (hth gs k).a (hth gs k).zs := HQ.out.one k hqz1
        have := eqb_any (hth hs k).a (hth hs k).c (hth hs k).zs (hth gs k).a (hth gs k).c (hth gs k).zs (w.drewN r) hI hJ (Nat.le_trans hfit.1 hfit.2) (by rw [HZ.out k]; exact Nat.le_trans hfit.1 hfit.2)
        rw [HZ.out k, decb_same] at this
        rw [HZ.out k]
        exact this
      obtain ⟨h, HH⟩ : ∃ h, Hid (hth hs k = h) := ⟨_, rfl⟩
      obtain ⟨g, HG⟩ : ∃ h, Hid (hth gs k = h) := ⟨_, rfl⟩
      rw [HH.out] at C hc
      rw [HG.out] at C hc1
      obtain ⟨ha, hcp, hz⟩ := h
      obtain ⟨ga, gcp, gz⟩ := g
      have hki : (k : Int) < (n : Int) := by omega
      have hk0 : (0 : Int) ≤ (k : Int) := by omega
      clear hqz hqz1 hfit
      go_wp2_with fail
      go_quiet ((go_at_call 16; refine (C.out _).mono ?_; rintro e w' ⟨rfl, q, rfl⟩; exact ⟨rfl, _, by rw [World.drewN_drewN, Nat.add_assoc]⟩))
      go_wp2
      go_roundw
      case rel => exact ⟨k + 1, _, by omega, by go_num, rfl⟩
      case measure => simp [intOf]; omega
    · have hkn : k = n := by omega
      subst hkn
      go_wp2
      go_ret
      exact ⟨rfl, _, rfl⟩

/-- Copies of the bits of peers: a row at block base, each peer's bits in a block behind it, all below top. -/
structure MadeP (w : World) (base top : Nat) (hs : List PH) : Prop where
  row : OwnRow PK w base (some ⟨base, 0, none⟩) hs.length hs
  bits : ∀ i, i < hs.length → ∃ g, (hth hs i).a = some ⟨g, 0, none⟩ ∧ base < g ∧ g < top ∧ (hth hs i).c = (hth hs i).zs.length ∧ OwnBools w g (some ⟨g, 0, none⟩) (hth hs i).zs.length (hth hs i).zs
  apart : ∀ i j, i < j → j < hs.length → (hth hs i).a ≠ (hth hs j).a
  most : hs.length ≤ 1048576
  top_le : top ≤ w.heap.size
theorem ownb_lie {w : World} {base : Nat} {A : Option Addr} {cap : Nat} {zs : List Bool} (h : OwnBools w base A cap zs) : zs.length ≤ cap ∧ cap ≤ maxLen := by
  rcases h.2 with ⟨hv, hn⟩ | ⟨g, c, cur, hv, _, _, h1, h2, _⟩
  · injection hv with _ _ hc; exact ⟨by omega, by omega⟩
  · injection hv with _ _ hc; subst hc; exact ⟨h1, h2⟩
section
variable {w w' : World} {base top : Nat} {hs : List PH}
theorem MadeP.pat (h : MadeP w base top hs) : PAt w w.heap.size (some ⟨base, 0, none⟩) hs := by
  refine ⟨h.row.at_, fun x hx => ?_, fun x hx => ?_, by have := h.most; unfold maxLen; omega⟩
  · obtain ⟨i, hi, rfl⟩ := List.getElem_of_mem hx
    obtain ⟨g, h1, _, _, h4, h5⟩ := h.bits i hi
    rw [← hth_eq hs i hi, h1]
    exact h5.ints
  · obtain ⟨i, hi, rfl⟩ := List.getElem_of_mem hx
    obtain ⟨g, h1, _, _, h4, h5⟩ := h.bits i hi
    rw [← hth_eq hs i hi, h4]
    exact ⟨Nat.le_refl _, (ownb_lie h5).2⟩
theorem MadeP.keepB (h : MadeP w base top hs) (hk : ∀ i, base ≤ i → i < top → w'.heap[i]? = w.heap[i]?) (hz : w.heap.size ≤ w'.heap.size) (hb : base < top) : MadeP w' base top hs :=
  ⟨h.row.block fun g hg => hk g (by injection hg with hg; injection hg with hg; omega) (by injection hg with hg; injection hg with hg; omega), fun i hi => by
    obtain ⟨g, h1, h2, h3, h4, h5⟩ := h.bits i hi
    exact ⟨g, h1, h2, h3, h4, ownb_block h5 fun g' hg => by injection hg with hg; injection hg with hg; subst hg; exact hk g (by omega) h3⟩, h.apart, h.most, Nat.le_trans h.top_le hz⟩
theorem MadeP.below (h : MadeP w base top hs) (hb : Below w.heap.size w w') : MadeP w' base top hs :=
  ⟨h.row.below hb, fun i hi => by
    obtain ⟨g, h1, h2, h3, h4, h5⟩ := h.bits i hi
    exact ⟨g, h1, h2, h3, h4, h5.below hb⟩, h.apart, h.most, Nat.le_trans h.top_le hb.size⟩
theorem MadeP.drewN (h : MadeP w base top hs) (n : Nat) : MadeP (w.drewN n) base top hs := ⟨h.row, h.bits, h.apart, h.most, h.top_le⟩
theorem MadeP.lt (h : MadeP w base top hs) : base < w.heap.size := (h.row.lies _ rfl).2
end

def noP (n : Nat) : List PH := List.replicate n ⟨none, 0, []⟩
theorem bits_info : (Try.prog.info? 27).map (fun i => (i.zero, i.size, i.bytes)) = some (some (.slice none 0 0), 1, 24) := by kernel_rfl
theorem noP_step (ys : List PH) (h : PH) (n : Nat) (hk : ys.length < n) : (ys ++ noP (n - ys.length)).set ys.length h = (ys ++ [h]) ++ noP (n - (ys ++ [h]).length) := by
  have e : n - ys.length = (n - (ys.length + 1)) + 1 := by omega
  have hz : noP (n - ys.length) = ⟨none, 0, []⟩ :: noP (n - (ys.length + 1)) := by rw [e]; rfl
  rw [hz, List.set_append_right _ _ (Nat.le_refl _), Nat.sub_self, List.set_cons_zero, List.append_assoc, List.length_append]
  rfl
theorem noP_len (ys : List PH) (n : Nat) (hk : ys.length ≤ n) : (ys ++ noP (n - ys.length)).length = n := by
  rw [List.length_append]; unfold noP; rw [List.length_replicate]; omega
theorem hth_append_lt (ys zs : List PH) (i : Nat) (h : i < ys.length) : hth (ys ++ zs) i = hth ys i := by
  unfold hth; rw [List.getD_eq_getElem?_getD, List.getD_eq_getElem?_getD, List.getElem?_append_left h]
theorem hth_append_end (ys : List PH) (h : PH) : hth (ys ++ [h]) ys.length = h := by
  unfold hth; rw [List.getD_eq_getElem?_getD, List.getElem?_append_right (Nat.le_refl _), Nat.sub_self]; rfl
/-- While the copies are made. -/
structure Making (w : World) (base n : Nat) (ys : List PH) : Prop where
  row : OwnRow PK w base (some ⟨base, 0, none⟩) n (ys ++ noP (n - ys.length))
  bits : ∀ i, i < ys.length → ∃ g, (hth ys i).a = some ⟨g, 0, none⟩ ∧ base < g ∧ g < w.heap.size ∧ (hth ys i).c = (hth ys i).zs.length ∧ OwnBools w g (some ⟨g, 0, none⟩) (hth ys i).zs.length (hth ys i).zs
  apart : ∀ i j, i < j → j < ys.length → (hth ys i).a ≠ (hth ys j).a
theorem Making.below {w w' : World} {base n : Nat} {ys : List PH} (h : Making w base n ys) (hb : Below w.heap.size w w') : Making w' base n ys :=
  ⟨h.row.below hb, fun i hi => by
    obtain ⟨g, h1, h2, h3, h4, h5⟩ := h.bits i hi
    exact ⟨g, h1, h2, Nat.lt_of_lt_of_le h3 hb.size, h4, h5.below hb⟩, h.apart⟩
/-- A further copy is put in. -/
theorem Making.put {w : World} {base n g : Nat} {ys : List PH} {zs : List Bool} (h : Making w base n ys) (hn : ys.length < n) (ho : OwnBools w g (some ⟨g, 0, none⟩) zs.length zs) (hg : ∀ i, i < ys.length → ∀ g', (hth ys i).a = some ⟨g', 0, none⟩ → g' < g) (hbg : base < g) :
    Making (w.setCell ⟨base, ys.length, none⟩ (.slice (some ⟨g, 0, none⟩) zs.length zs.length)) base n (ys ++ [⟨some ⟨g, 0, none⟩, zs.length, zs⟩]) := by
  have hx : (ys ++ noP (n - ys.length))[ys.length]? = some ⟨none, 0, []⟩ := by
    rw [List.getElem?_append_right (Nat.le_refl _), Nat.sub_self]
    have e : n - ys.length = (n - (ys.length + 1)) + 1 := by omega
    rw [e]; rfl
  have hs := h.row.stored ys.length ⟨none, 0, []⟩ ⟨some ⟨g, 0, none⟩, zs.length, zs⟩ hx 0 (by decide) (.slice (some ⟨g, 0, none⟩) zs.length zs.length) rfl
  rw [noP_step ys _ n hn] at hs
  have e : ys.length * PK.k + 0 = ys.length := by show ys.length * 1 + 0 = _; omega
  rw [e] at hs
  have hgl : g < w.heap.size := (ownb_lt ho g rfl).2
  refine ⟨hs.1, fun i hi => ?_, fun i j hij hj => ?_⟩
  · rw [List.length_append, List.length_singleton] at hi
    by_cases hi' : i < ys.length
    · obtain ⟨g', h1, h2, h3, h4, h5⟩ := h.bits i hi'
      rw [hth_append_lt ys _ i hi']
      exact ⟨g', h1, h2, Nat.lt_of_lt_of_le h3 hs.2.size, h4, ownb_block h5 fun g2 hg2 => by injection hg2 with hg2; injection hg2 with hg2; subst hg2; exact hs.2.block g' h3 (fun e => by injection e with e; omega)⟩
    · have hie : i = ys.length := by omega
      subst hie
      rw [hth_append_end]
      exact ⟨g, rfl, hbg, Nat.lt_of_lt_of_le hgl hs.2.size, rfl, ownb_block ho fun g2 hg2 => by injection hg2 with hg2; injection hg2 with hg2; subst hg2; exact hs.2.block g hgl (fun e => by injection e with e; omega)⟩
  · rw [List.length_append, List.length_singleton] at hj
    rw [hth_append_lt ys _ i (by omega)]
    by_cases hj' : j < ys.length
    · rw [hth_append_lt ys _ j hj']; exact h.apart i j hij hj'
    · have hje : j = ys.length := by omega
      subst hje
      rw [hth_append_end]
      intro he
      have := hg i (by omega) g he
      omega

/-- What toBoolSS hands back. -/
def CopiedP (w : World) (hs : List PH) (n : Nat) (e : Ending) (w' : World) : Prop :=
  ∃ ys, e = .returned (.slice (some ⟨w.heap.size, 0, none⟩) n n) ∧ ys.length = n ∧ pz ys = pz hs ∧ MadeP w' w.heap.size w'.heap.size ys ∧ Below w.heap.size w w'

set_option maxHeartbeats 4000000 in
set_option maxRecDepth 100000 in
theorem toPeers_any (A : Option Addr) (cap : Nat) (hs : List PH) (w : World) (hP : PAt w w.heap.size A hs) (hF : FewB (pz hs)) :
    Calls Try.prog 9 #[.slice A hs.length cap] w (CopiedP w hs hs.length) := by
  have HP := Lib.hid hP
  have HF := Lib.hid hF
  have HZ0 : Hid ((pz hs).length = hs.length) := pz_length hs
  have hm : hs.length ≤ 1048576 := by unfold FewB at hF; rw [HZ0.out] at hF; omega
  obtain ⟨n, HN⟩ : ∃ n, Hid (hs.length = n) := ⟨_, rfl⟩
  rw [HN.out] at hm HZ0 ⊢
  clear hP hF
  obtain ⟨i0, hi0, hz0, hz1, hz2⟩ := info_parts bits_info
  have hmk := fun W => run_make_kind (P := Try.prog) PK 22 ⟨none, 0, []⟩ _ Try.underlying22 hi0 hz0 hz1 hz2 rfl .i64 .i64 n (by show 24 * n ≤ _; omega) (by omega) W
  obtain ⟨W, HW⟩ : ∃ Q0, Hid (w.alloc (.cells (PK.cells (List.replicate n ⟨none, 0, []⟩)).toArray PK.e) = Q0) := ⟨_, rfl⟩
  have HO0 : Hid (Making W w.heap.size n []) := by
    refine ⟨?_, fun i hi => absurd hi (Nat.not_lt_zero _), fun i j _ hj => absurd hj (Nat.not_lt_zero _)⟩
    rw [← HW.out]
    exact OwnRow.made PK w n ⟨none, 0, []⟩ (by unfold maxLen; omega)
  have HB0 : Hid (Below w.heap.size w W) := by rw [← HW.out]; exact (Below.refl _ _).alloc (Nat.le_refl _) _
  clear hz0 hz1 hz2 hi0
  go_enter Try.func9, Try.ntmps9
  go_upto_region 2 with fail
  rw [HW.out]
  clear hmk
  go_wp2
  go_loopw [4] (fun i w' => ∃ (k : Nat) (ys : List PH), k ≤ n ∧ i = .int .i64 (k : Int) ∧ ys.length = k ∧ Hid (pz ys = (pz hs).take k) ∧ Hid (Making w' w.heap.size n ys) ∧ Hid (Below w.heap.size w w')) (fun i _ => n - (intOf i).toNat)
  case atStart => exact ⟨0, [], Nat.zero_le _, rfl, rfl, rfl, HO0, HB0⟩
  case round =>
    obtain ⟨k, ys, hk, rfl, hyk, HPZ, HM, HB⟩ := hrel
    by_cases hlt : k < n
    · have hqz : k < hs.length := by rw [HN.out]; exact hlt
      have hP1 := HP.out.below HB.out (Nat.le_refl _)
      obtain ⟨b, o, rfl, _, hc⟩ := hP1.cell k hqz
      have hfew := HF.out.one k (by rw [HZ0.out]; exact hlt)
      rw [pth_pz] at hfew
      have C := Lib.hid (toBools_any (hth hs k).a (hth hs k).c (hth hs k).zs wr ((hP1.more HB.out.size).one k hqz) hfew)
      have HTK : Hid ((pz hs).take (k + 1) = (pz hs).take k ++ [(hth hs k).zs]) := by show _ = _; rw [take_pth (pz hs) k (by rw [HZ0.out]; exact hlt), pth_pz]
      obtain ⟨h, HH⟩ : ∃ h, Hid (hth hs k = h) := ⟨_, rfl⟩
      rw [HH.out] at C hc HTK
      obtain ⟨ha, hcp, hz⟩ := h
      have hki : (k : Int) < (n : Int) := by omega
      have hbz : w.heap.size < wr.heap.size := (HM.out.row.lies _ rfl).2
      clear hqz hfew hP1
      go_wp2_with fail
      refine C.out.mono ?_
      rintro e w1 ⟨rfl, ho, hb1⟩
      have hM1 := HM.out.below hb1
      have hcf := hM1.row.cellF k ⟨none, 0, []⟩ (by rw [List.getElem?_append_right (by omega), hyk, Nat.sub_self]; show (noP (n - k))[0]? = _; have e : n - k = (n - (k + 1)) + 1 := by omega
                                                    rw [e]; rfl) 0 _ rfl
      have e0 : k * PK.k + 0 = k := by show k * 1 + 0 = _; omega
      rw [e0] at hcf
      obtain ⟨hcx, hfx⟩ := hcf
      have hput := hM1.put (by omega) ho (fun i hi g' hg' => by
        obtain ⟨g, h1, _, h3, _⟩ := HM.out.bits i hi
        rw [h1] at hg'
        injection hg' with hg'; injection hg' with hg'; omega) hbz
      rw [hyk] at hput
      have HM2 := Lib.hid hput
      have HB2 : Hid (Below w.heap.size w (w1.setCell ⟨w.heap.size, k, none⟩ (.slice (some ⟨wr.heap.size, 0, none⟩) hz.length hz.length))) := (HB.out.trans (hb1.mono HB.out.size)).setCell (p := ⟨w.heap.size, k, none⟩) (Nat.le_refl _) _
      have HPZ2 : Hid (pz (ys ++ [⟨some ⟨wr.heap.size, 0, none⟩, hz.length, hz⟩]) = (pz hs).take (k + 1)) := by
        show _ = _
        rw [HTK.out, ← HPZ.out]
        unfold pz
        rw [List.map_append]; rfl
      have HL2 : Hid ((ys ++ [(⟨some ⟨wr.heap.size, 0, none⟩, hz.length, hz⟩ : PH)]).length = k + 1) := by show _ = _; rw [List.length_append, hyk]; rfl
      clear hM1 hput ho hb1 C
      go_wp2
      go_roundw
      case rel => exact ⟨k + 1, _, by omega, by go_num, HL2.out, HPZ2, HM2, HB2⟩
      case measure => simp [intOf]; omega
    · have hkn : k = n := by omega
      subst hkn
      have HE : Hid (CopiedP w hs k (.returned (.slice (some ⟨w.heap.size, 0, none⟩) k k)) wr) := by
        refine ⟨ys, rfl, hyk, ?_, ?_, HB.out⟩
        · rw [HPZ.out, List.take_of_length_le (by rw [HZ0.out]; exact Nat.le_refl _)]
        · have h := HM.out
          refine ⟨?_, h.bits, h.apart, by omega, Nat.le_refl _⟩
          have hr := h.row
          rw [hyk, Nat.sub_self] at hr
          rw [hyk]
          have e : ys ++ noP 0 = ys := List.append_nil ys
          rw [e] at hr
          exact hr
      go_wp2
      go_ret
      exact HE.out

theorem hM_cell {w : World} {base n : Nat} {ys : List PH} (h : OwnRow PK w base (some ⟨base, 0, none⟩) n ys) (k : Nat) (hk : k < ys.length) : w.cell? ⟨base, k, none⟩ = some (.slice (hth ys k).a (hth ys k).zs.length (hth ys k).c) := by
  have := (h.cellF k (hth ys k) (hth_get ys k hk) 0 _ rfl).1
  have e0 : k * PK.k + 0 = k := by show k * 1 + 0 = _; omega
  rw [e0] at this
  exact this
/-- While the copies are marked. -/
structure Marking (w : World) (base top n k : Nat) (ys : List PH) : Prop where
  row : OwnRow PK w base (some ⟨base, 0, none⟩) n ys
  bits : ∀ i, k ≤ i → i < n → ∃ g, (hth ys i).a = some ⟨g, 0, none⟩ ∧ base < g ∧ g < top ∧ g < w.heap.size ∧ (hth ys i).c = (hth ys i).zs.length ∧ OwnBools w g (some ⟨g, 0, none⟩) (hth ys i).zs.length (hth ys i).zs

set_option maxHeartbeats 4000000 in
set_option maxRecDepth 100000 in
theorem markPeers_any (base top c : Nat) (ys : List PH) (w : World) (hM : MadeP w base top ys) (hF : FewB (pz ys)) (n : Nat) (hn : ys.length = n) :
    Calls Try.prog 17 #[.slice (some ⟨base, 0, none⟩) n c, .int .i64 1] w fun e w' => e = .returned (.int .i64 ((1 + totB (pz ys) : Nat) : Int)) ∧ Below base w w' ∧ ∀ i, top ≤ i → i < w.heap.size → w'.heap[i]? = w.heap[i]? := by
  have HM0 : Hid (Marking w base top n 0 ys) := ⟨by have := hM.row; rw [hn] at this; exact this, fun i _ hi => by
    obtain ⟨g, h1, h2, h3, h4, h5⟩ := hM.bits i (by omega)
    exact ⟨g, h1, h2, h3, Nat.lt_of_lt_of_le h3 hM.top_le, h4, h5⟩⟩
  have HAP := Lib.hid hM.apart
  have HF := Lib.hid hF
  have HN := Lib.hid hn
  have HZ0 : Hid ((pz ys).length = n) := by show _ = _; rw [pz_length]; exact hn
  have hm : n ≤ 1048576 := by rw [← hn]; exact hM.most
  have hbw : base < w.heap.size := hM.lt
  clear hM hF hn
  go_enter Try.func17, Try.ntmps17
  go_wp2
  go_loopw [1, 5] (fun x i w' => ∃ (k t : Nat), k ≤ n ∧ x = .int .i64 ((1 + t : Nat) : Int) ∧ i = .int .i64 (k : Int) ∧ t ≤ 1048576 ∧ Hid (totB ((pz ys).take k) = t) ∧ Hid (Marking w' base top n k ys) ∧ Hid (Below base w w') ∧ Hid (∀ i, top ≤ i → i < w.heap.size → w'.heap[i]? = w.heap[i]?)) (fun _ i _ => n - (intOf i).toNat)
  case atStart => exact ⟨0, 0, Nat.zero_le _, rfl, rfl, Nat.zero_le _, rfl, HM0, Below.refl _ _, fun i _ _ => rfl⟩
  case round =>
    obtain ⟨k, t, hk, rfl, rfl, ht, HT, HM, HB, HK⟩ := hrel
    by_cases hlt : k < n
    · obtain ⟨g, h1, h2, h3, h3', h4, h5⟩ := HM.out.bits k (Nat.le_refl _) hlt
      have hcf := hM_cell HM.out.row k (by rw [HN.out]; exact hlt)
      have htk := totB_take (pz ys) k (by rw [HZ0.out]; exact hlt)
      have hle := totB_le (pz ys) (k + 1)
      have hfw := HF.out
      unfold FewB at hfw
      rw [pth_pz] at htk
      rw [h1, h4] at hcf
      rw [HT.out] at htk
      have C := Lib.hid (markb_some g g (hth ys k).zs.length (1 + t) (hth ys k).zs wr h5 (by omega) (by omega))
      obtain ⟨m, HMM⟩ : ∃ m, Hid ((hth ys k).zs.length = m) := ⟨_, rfl⟩
      rw [HMM.out] at C hcf htk
      have htm : t + m ≤ 1048576 := by omega
      have HTK : Hid (totB ((pz ys).take (k + 1)) = t + m) := htk
      have HA1 := Lib.hid h1
      have hki : (k : Int) < (n : Int) := by omega
      clear h1 h4 h5 htk hle hfw
      go_wp2_with fail
      refine C.out.mono ?_
      rintro e w1 ⟨rfl, _, hgr, _⟩
      have hg1 := hgr g rfl
      have HM1 : Hid (Marking w1 base top n (k + 1) ys) := by
        refine ⟨HM.out.row.block fun g' hg' => ?_, fun i hi hin => ?_⟩
        · injection hg' with hg'; injection hg' with hg'; subst hg'
          exact hg1.block base (by omega) (fun e => by injection e with e; omega)
        · obtain ⟨g', k1, k2, k3, k3', k4, k5⟩ := HM.out.bits i (by omega) hin
          have hne : g' ≠ g := fun e => by
            subst e
            exact HAP.out k i (by omega) (by rw [HN.out]; exact hin) (HA1.out.trans k1.symm)
          exact ⟨g', k1, k2, k3, Nat.lt_of_lt_of_le k3' hg1.size, k4, ownb_block k5 fun g2 hg2 => by
            injection hg2 with hg2; injection hg2 with hg2; subst hg2
            exact hg1.block g' k3' (fun e => by injection e with e; exact hne e)⟩
      have HB1 : Hid (Below base w w1) := HB.out.grown hg1 (by have := HB.out.size; omega) (fun k hk => by injection hk with hk; omega)
      have HK1 : Hid (∀ i, top ≤ i → i < w.heap.size → w1.heap[i]? = w.heap[i]?) := fun i hi hiw => (hg1.block i (Nat.lt_of_lt_of_le hiw HB.out.size) (fun e => by injection e with e; omega)).trans (HK.out i hi hiw)
      have hcast : 1 + t + m = 1 + (t + m) := by omega
      rw [hcast]
      clear hgr hg1 C
      go_wp2
      go_roundw
      case rel => exact ⟨k + 1, t + m, by omega, rfl, by go_num, htm, HTK, HM1, HB1, HK1⟩
      case measure => simp [intOf]; omega
    · have hkn : k = n := by omega
      subst hkn
      have HE : Hid (totB (pz ys) = t) := by
        show _ = _
        have := HT.out
        rw [List.take_of_length_le (by rw [HZ0.out]; exact Nat.le_refl _)] at this
        exact this
      go_wp2
      go_ret
      exact ⟨by rw [HE.out]; rfl, HB.out, HK.out⟩

end Go.Proofs.Ytjnpkcnnfojmpaa
