/- Contract of the model's WorldNew: a run of peers with empty feeds. No conditions. -/
import Derived.Test.YtkmebilhbjcfpaaGreatBaseP
import Derived.Test.YtkmebilhbjcfpaaGreatBaseH
import Derived.Test.YtkmebilhbjcfpaaGreatExactRowN
import Derived.Test.YtkmebilhbjcfpaaGreatBaseS
namespace Go.Proofs.YtkmebilhbjcfpaaGreat
open Go.RowKit
set_option linter.unusedVariables false

/-- Rows of different kinds lie in different blocks. -/
theorem own_rows_ne {α β : Type} {K : Kind α} {K' : Kind β} {w : World} {b b' c c' : Nat} {A A' : Option Addr} {xs : List α} {ys : List β} (h : OwnRow K w b A c xs) (h' : OwnRow K' w b' A' c' ys) (hne : K.e ≠ K'.e) (n g : Nat) (e' : A' = some ⟨g, 0, none⟩) : some g ≠ Value.ownBlock (.slice A n c) := by
  intro e
  subst e'
  rcases h.2 with ⟨hv, _⟩ | ⟨g1, cap, cur, hv, _, hh, _⟩
  · injection hv with hA
    subst hA
    cases e
  · injection hv with hA
    subst hA
    injection e with e
    subst e
    rcases h'.2 with ⟨hv', _⟩ | ⟨g2, cap', cur', hv', _, hh', _⟩
    · injection hv' with hA'
      cases hA'
    · injection hv' with hA'
      injection hA' with hA'
      injection hA' with hA'
      subst hA'
      have hh2 := hh.symm.trans hh'
      injection hh2 with hh2
      injection hh2 with _ hh3
      exact hne hh3
theorem OwnRow.aside {α β : Type} {K : Kind α} {K' : Kind β} {w w' : World} {b b' c c' n : Nat} {A A' : Option Addr} {xs : List α} {ys : List β} (h : OwnRow K w b A c xs) (h' : OwnRow K' w b' A' c' ys) (hne : K.e ≠ K'.e) (hg : w.grownBy w' (Value.ownBlock (.slice A n c))) : OwnRow K' w' b' A' c' ys :=
  h'.block fun g e => hg.block g (h'.lies g e).2 (own_rows_ne h h' hne n g e)
def newFs (p : Int) (fs : List FH) : Prop := ∀ h ∈ fs, h.f = newF p ∧ h.c1 = 0 ∧ h.c2 = 0
def newAs (hs : List AH) : Prop := ∀ h ∈ hs, h.xs = [] ∧ h.c = 0
theorem newFs_hfs {p : Int} {fs : List FH} (h : newFs p fs) : hfs fs = List.replicate fs.length (newF p) := by
  unfold hfs
  rw [List.eq_replicate_iff]
  refine ⟨List.length_map _, fun x hx => ?_⟩
  obtain ⟨y, hy, rfl⟩ := List.mem_map.1 hx
  exact (h y hy).1
theorem newAs_has {hs : List AH} (h : newAs hs) : has hs = List.replicate hs.length [] := by
  unfold has
  rw [List.eq_replicate_iff]
  refine ⟨List.length_map _, fun x hx => ?_⟩
  obtain ⟨y, hy, rfl⟩ := List.mem_map.1 hx
  exact (h y hy).1
theorem newRun_at {w : World} {b : Nat} {p : Int} {A1 A3 : Option Addr} {c1 c3 g1 g2 : Nat} {fs : List FH} {hs : List AH} (h1 : OwnRow FK w b A1 c1 fs) (h3 : OwnRow HK2 w b A3 c3 hs) (hf : newFs p fs) (ha : newAs hs) :
    RunAt w w.heap.size ⟨A1, c1, fs, some ⟨g1, 0, none⟩, 0, A3, c3, hs, some ⟨g2, 0, none⟩, 0, []⟩ [] := by
  have l1 := h1.le
  have l3 := h3.le
  refine ⟨h1.at_, RowAt.nil, h3.at_, RowAt.nil, fun x hx => ?_, fun x hx => ?_, fun x hx => absurd hx (by intro e; cases e), by show fs.length ≤ _; omega, Nat.zero_le _, by show hs.length ≤ _; omega, Nat.zero_le _, h1.nil_cap, fun _ => rfl, h3.nil_cap, fun _ => rfl, l1.1, Nat.zero_le _, l3.1, Nat.zero_le _, l1.2, Nat.zero_le _, l3.2, Nat.zero_le _⟩
  · obtain ⟨f, a1, k1, a2, k2⟩ := x
    obtain ⟨e1, e2, e3⟩ := hf _ hx
    dsimp only at e1 e2 e3
    subst e1 e2 e3
    exact ⟨⟨StrsAt.nil, BoolsAt.nil, fun k => Nat.zero_le _, Nat.zero_le _, Nat.zero_le _⟩, fun _ => rfl, fun _ => rfl, ⟨Nat.zero_le _, Nat.zero_le _⟩, ⟨Nat.zero_le _, Nat.zero_le _⟩⟩
  · obtain ⟨a1, k1, xs⟩ := x
    obtain ⟨e1, e2⟩ := ha _ hx
    dsimp only at e1 e2
    subst e1 e2
    exact ⟨RowAt.nil, Nat.zero_le _, Nat.zero_le _, fun _ => rfl⟩

set_option maxHeartbeats 4000000 in
set_option maxRecDepth 100000 in
theorem sworldNew_no (sec n bad : Int) (w : World) (h : newOk sec n bad = false) :
    Calls Tryz.prog 20 #[.int .i64 sec, .int .i64 n, .int .i64 bad] w fun e w' => e = .returned (.tuple #[.agg #[.int .i64 0, .int .i64 0, .slice none 0 0, .slice none 0 0, .slice none 0 0, .slice none 0 0], .bool false]) ∧ Below w.heap.size w w' := by
  have HN : Hid (¬ ((1 ≤ sec ∧ sec < 997) ∧ (1 ≤ n ∧ n ≤ 6) ∧ (bad = -1 ∨ (1 ≤ bad ∧ bad ≤ n - 1)))) := fun x => by rw [(newOk_iff _ _ _).2 x] at h; cases h
  clear h
  have C1 := Lib.hid (fun U => l6in_any n 1 6 U)
  by_cases hk : 1 ≤ sec ∧ sec < 997
  · by_cases hp : 1 ≤ n ∧ n ≤ 6
    · have hb : ¬ (bad = -1 ∨ (1 ≤ bad ∧ bad ≤ n - 1)) := fun x => HN.out ⟨hk, hp, x⟩
      have hb1 : (bad != -1) = true := by rw [bne_iff_ne]; exact fun e => hb (.inl e)
      have hw : IntKind.i64.wrap (n - 1) = n - 1 := IntWalk.i64_in _ (by omega)
      have C2 := Lib.hid (fun U => l6in_any bad 1 (n - 1) U)
      have e1 : (decide ((1 : Int) ≤ n) && decide (n ≤ 6)) = true := by rw [decide_eq_true hp.1, decide_eq_true hp.2]; rfl
      have e2 : (decide ((1 : Int) ≤ bad) && decide (bad ≤ n - 1)) = false := by rw [Bool.eq_false_iff]; intro e; rw [Bool.and_eq_true, decide_eq_true_eq, decide_eq_true_eq] at e; exact hb (.inr e)
      rw [e1] at C1
      rw [e2] at C2
      clear e1 e2 hb hp
      go_enter Tryz.func20, Tryz.ntmps20
      go_wp2_with fail
      refine (skey_yes _ _ hk.1 hk.2).mono ?_
      rintro e w' ⟨rfl, rfl⟩
      go_wp2_with fail
      refine (C1.out _).mono ?_
      rintro e w' ⟨rfl, rfl⟩
      go_wp2_with fail
      refine (C2.out _).mono ?_
      rintro e w' ⟨rfl, rfl⟩
      go_wp2
      have hblk := Blk.new w 35 #[.int .i64 0, .int .i64 0, .slice none 0 0, .slice none 0 0, .slice none 0 0, .slice none 0 0]
      have hbel : Below w.heap.size w (w.alloc (.cells #[.int .i64 0, .int .i64 0, .slice none 0 0, .slice none 0 0, .slice none 0 0, .slice none 0 0] 35)) := (Below.refl _ w).alloc (Nat.le_refl _) _
      obtain ⟨W, HW⟩ : ∃ W, Hid (w.alloc (.cells #[.int .i64 0, .int .i64 0, .slice none 0 0, .slice none 0 0, .slice none 0 0, .slice none 0 0] 35) = W) := ⟨_, rfl⟩
      rw [HW.out] at hblk hbel ⊢
      obtain ⟨c0, c1, c2, c3, c4, c5⟩ := run_cells hblk
      exact bodyPost_ret (v := .tuple #[.agg #[.int .i64 0, .int .i64 0, .slice none 0 0, .slice none 0 0, .slice none 0 0, .slice none 0 0], .bool false]) (by simp [results, Tryz.results20, go_sem, c0, c1, c2, c3, c4, c5]) rfl ⟨rfl, hbel⟩
    · have e1 : (decide ((1 : Int) ≤ n) && decide (n ≤ 6)) = false := by rw [Bool.eq_false_iff]; intro e; rw [Bool.and_eq_true, decide_eq_true_eq, decide_eq_true_eq] at e; exact hp e
      rw [e1] at C1
      clear e1 hp
      go_enter Tryz.func20, Tryz.ntmps20
      go_wp2_with fail
      refine (skey_yes _ _ hk.1 hk.2).mono ?_
      rintro e w' ⟨rfl, rfl⟩
      go_wp2_with fail
      refine (C1.out _).mono ?_
      rintro e w' ⟨rfl, rfl⟩
      go_wp2
      have hblk := Blk.new w 35 #[.int .i64 0, .int .i64 0, .slice none 0 0, .slice none 0 0, .slice none 0 0, .slice none 0 0]
      have hbel : Below w.heap.size w (w.alloc (.cells #[.int .i64 0, .int .i64 0, .slice none 0 0, .slice none 0 0, .slice none 0 0, .slice none 0 0] 35)) := (Below.refl _ w).alloc (Nat.le_refl _) _
      obtain ⟨W, HW⟩ : ∃ W, Hid (w.alloc (.cells #[.int .i64 0, .int .i64 0, .slice none 0 0, .slice none 0 0, .slice none 0 0, .slice none 0 0] 35) = W) := ⟨_, rfl⟩
      rw [HW.out] at hblk hbel ⊢
      obtain ⟨c0, c1, c2, c3, c4, c5⟩ := run_cells hblk
      exact bodyPost_ret (v := .tuple #[.agg #[.int .i64 0, .int .i64 0, .slice none 0 0, .slice none 0 0, .slice none 0 0, .slice none 0 0], .bool false]) (by simp [results, Tryz.results20, go_sem, c0, c1, c2, c3, c4, c5]) rfl ⟨rfl, hbel⟩
  · have HK := Lib.hid hk
    clear hk
    go_enter Tryz.func20, Tryz.ntmps20
    go_wp2_with fail
    refine (skey_no _ _ HK.out).mono ?_
    rintro e w' ⟨rfl, rfl⟩
    go_wp2
    have hblk := Blk.new w 35 #[.int .i64 0, .int .i64 0, .slice none 0 0, .slice none 0 0, .slice none 0 0, .slice none 0 0]
    have hbel : Below w.heap.size w (w.alloc (.cells #[.int .i64 0, .int .i64 0, .slice none 0 0, .slice none 0 0, .slice none 0 0, .slice none 0 0] 35)) := (Below.refl _ w).alloc (Nat.le_refl _) _
    obtain ⟨W, HW⟩ : ∃ W, Hid (w.alloc (.cells #[.int .i64 0, .int .i64 0, .slice none 0 0, .slice none 0 0, .slice none 0 0, .slice none 0 0] 35) = W) := ⟨_, rfl⟩
    rw [HW.out] at hblk hbel ⊢
    obtain ⟨c0, c1, c2, c3, c4, c5⟩ := run_cells hblk
    exact bodyPost_ret (v := .tuple #[.agg #[.int .i64 0, .int .i64 0, .slice none 0 0, .slice none 0 0, .slice none 0 0, .slice none 0 0], .bool false]) (by simp [results, Tryz.results20, go_sem, c0, c1, c2, c3, c4, c5]) rfl ⟨rfl, hbel⟩

set_option maxHeartbeats 8000000 in
set_option maxRecDepth 100000 in
theorem sworldNew_yes (sec bad : Int) (n : Nat) (w : World) (h : newOk sec (n : Int) bad = true) :
    Calls Tryz.prog 20 #[.int .i64 sec, .int .i64 (n : Int), .int .i64 bad] w fun e w' => ∃ r, e = .returned (.tuple #[.agg #[.int .i64 sec, .int .i64 bad, .slice r.A1 n r.c1, .slice r.A2 0 r.c2, .slice r.A3 n r.c3, .slice r.A4 0 r.c4], .bool true]) ∧ dataW sec bad r [] = newW sec (n : Int) bad ∧ RunAt w' w'.heap.size r [] ∧ Below w.heap.size w w' := by
  have hno := (newOk_iff _ _ _).1 h
  have hn6 : n ≤ 6 := by omega
  have hpu := publicOr_bd hno.1
  have HKEY := Lib.hid hno.1
  have HPEER := Lib.hid hno.2.1
  have HBAD := Lib.hid hno.2.2
  obtain ⟨pu, HPU⟩ : ∃ x, Hid (publicOr sec = x) := ⟨_, rfl⟩
  have CP := Lib.hid (fun U => spublic_any sec U)
  rw [HPU.out] at hpu CP
  obtain ⟨hp0, hp1⟩ := hpu
  have CF := Lib.hid (fun U => sfeedNew_yes pu U hp0 hp1)
  obtain ⟨i1, zz, hi0, hz0, hz1, hz2, hz3⟩ := feed_app
  have HI0 := Lib.hid (And.intro hi0 (And.intro hz0 (And.intro hz1 (And.intro hz2 hz3))))
  clear hi0 hz0 hz1 hz2 hz3
  obtain ⟨i2, zz2, hi0, hz0, hz1, hz2, hz3⟩ := asks_app
  have HI2 := Lib.hid (And.intro hi0 (And.intro hz0 (And.intro hz1 (And.intro hz2 hz3))))
  clear hi0 hz0 hz1 hz2 hz3 h hno
  have hw : IntKind.i64.wrap ((n : Int) - 1) = (n : Int) - 1 := IntWalk.i64_in _ (by omega)
  have C1 := Lib.hid (fun U => l6in_any (n : Int) 1 6 U)
  have C2 := Lib.hid (fun U => l6in_any bad 1 ((n : Int) - 1) U)
  have e1 : (decide ((1 : Int) ≤ (n : Int)) && decide ((n : Int) ≤ 6)) = true := by rw [decide_eq_true HPEER.out.1, decide_eq_true HPEER.out.2]; rfl
  rw [e1] at C1
  clear e1
  obtain ⟨W1, HW1⟩ : ∃ U, Hid (w.alloc (.cells #[.int .i64 0, .int .i64 0, .slice none 0 0, .slice none 0 0, .slice none 0 0, .slice none 0 0] 35) = U) := ⟨_, rfl⟩
  have K0 : Hid (Blk W1 w.heap.size 35 #[.int .i64 0, .int .i64 0, .slice none 0 0, .slice none 0 0, .slice none 0 0, .slice none 0 0]) := by rw [← HW1.out]; exact Blk.new w _ _
  have HB1 : Hid (Below w.heap.size w W1) := by rw [← HW1.out]; exact (Below.refl _ w).alloc (Nat.le_refl _) _
  have HS1 : Hid (W1.heap.size = w.heap.size + 1) := by show _ = _; rw [← HW1.out, World.size_alloc]
  obtain ⟨W2, HW2⟩ : ∃ U, Hid ((W1.alloc (.cells #[] 73)).alloc (.cells #[] 62) = U) := ⟨_, rfl⟩
  have HS2 : Hid (W2.heap.size = w.heap.size + 3) := by show _ = _; rw [← HW2.out, World.size_alloc, World.size_alloc, HS1.out]
  have K02 : Hid (Blk W2 w.heap.size 35 #[.int .i64 0, .int .i64 0, .slice none 0 0, .slice none 0 0, .slice none 0 0, .slice none 0 0]) := by rw [← HW2.out]; exact (K0.out.alloc _).alloc _
  have HB2 : Hid (Below w.heap.size w W2) := by rw [← HW2.out]; exact (HB1.out.alloc (by have := HS1.out; omega) _).alloc (by have := HS1.out; rw [World.size_alloc]; omega) _
  obtain ⟨W3, HW3⟩ : ∃ U, Hid (W2.alloc (.cells #[.int .i64 sec, .int .i64 bad, .slice none 0 0, .slice (some ⟨W1.heap.size, 0, none⟩) 0 0, .slice none 0 0, .slice (some ⟨W1.heap.size + 1, 0, none⟩) 0 0] 35) = U) := ⟨_, rfl⟩
  have K3 : Hid (Blk W3 W2.heap.size 35 #[.int .i64 sec, .int .i64 bad, .slice none 0 0, .slice (some ⟨W1.heap.size, 0, none⟩) 0 0, .slice none 0 0, .slice (some ⟨W1.heap.size + 1, 0, none⟩) 0 0]) := by rw [← HW3.out]; exact Blk.new W2 _ _
  have K03 : Hid (Blk W3 w.heap.size 35 #[.int .i64 0, .int .i64 0, .slice none 0 0, .slice none 0 0, .slice none 0 0, .slice none 0 0]) := by rw [← HW3.out]; exact K02.out.alloc _
  have HB3 : Hid (Below w.heap.size w W3) := by rw [← HW3.out]; exact HB2.out.alloc (by have := HS2.out; omega) _
  have HS3 : Hid (W3.heap.size = w.heap.size + 4) := by show _ = _; rw [← HW3.out, World.size_alloc, HS2.out]
  clear K0 HB1 K02 HB2
  go_enter Tryz.func20, Tryz.ntmps20
  go_upto_region 1 with fail
  rw [HW1.out]
  go_wp2_with fail
  refine (skey_yes _ _ HKEY.out.1 HKEY.out.2).mono ?_
  rintro e w' ⟨rfl, rfl⟩
  go_wp2_with fail
  refine (C1.out _).mono ?_
  rintro e w' ⟨rfl, hw'⟩
  rw [hw']
  clear hw'
  by_cases hb : bad = -1
  · subst hb
    go_upto_region 4 with fail
    rw [HW2.out, HW3.out]
    have hs1 := HS1.out
    have hs2 := HS2.out
    have hs3 := HS3.out
    have e2 : W2.heap.size = W1.heap.size + 1 + 1 := by omega
    rw [e2] at K3 hs2
    clear e2
    obtain ⟨gw, HGW⟩ : ∃ x, W1.heap.size + 1 + 1 = x := ⟨_, rfl⟩
    obtain ⟨gl, HGL⟩ : ∃ x, W1.heap.size = x := ⟨_, rfl⟩
    rw [HGW] at K3 hs2 ⊢
    rw [HGL] at K3 hs1 ⊢
    obtain ⟨g0, HG0⟩ : ∃ x, Hid (w.heap.size = x) := ⟨_, rfl⟩
    rw [HG0.out] at K03 HB3 hs1 hs2 hs3 ⊢
    have q10 : g0 < gl := by omega
    have q11 : gl + 1 < gw := by omega
    have q12 : gw < g0 + 4 := by omega
    have HZ3 : Hid (g0 + 4 ≤ W3.heap.size) := by show _ ≤ _; omega
    clear hs1 hs2 hs3
    go_wp2
    go_loopw [9] (fun i wr => ∃ (k : Nat) (A1 : Option Addr) (c1 : Nat) (A3 : Option Addr) (c3 : Nat) (fs : List FH) (hs : List AH), k ≤ n ∧ i = .int .i64 (k : Int) ∧ Hid (fs.length = k) ∧ Hid (hs.length = k) ∧ Hid (newFs pu fs) ∧ Hid (newAs hs) ∧ Hid (Below g0 w wr) ∧ Hid (g0 + 4 ≤ wr.heap.size) ∧ Hid (Blk wr g0 35 #[.int .i64 0, .int .i64 0, .slice none 0 0, .slice none 0 0, .slice none 0 0, .slice none 0 0]) ∧ Hid (Blk wr gw 35 #[.int .i64 sec, .int .i64 (-1), .slice A1 k c1, .slice (some ⟨gl, 0, none⟩) 0 0, .slice A3 k c3, .slice (some ⟨gl + 1, 0, none⟩) 0 0]) ∧ Hid (OwnRow FK wr (g0 + 4) A1 c1 fs) ∧ Hid (OwnRow HK2 wr (g0 + 4) A3 c3 hs)) (fun i _ => n - (intOf i).toNat)
    case atStart => exact ⟨0, none, 0, none, 0, [], [], Nat.zero_le _, rfl, rfl, rfl, fun h hh => (by cases hh), fun h hh => (by cases hh), HB3, HZ3, K03, K3, OwnRow.zero FK W3 _, OwnRow.zero HK2 W3 _⟩
    case round =>
      obtain ⟨k, A1, c1, A3, c3, fs, hs, hk, rfl, HLF, HLH, HNF, HNA, HBr, HZr, KZ, KW, HOF, HOA⟩ := hrel
      have hzr := HZr.out
      by_cases hkn : k < n
      · have hki : (k : Int) < (n : Int) := by omega
        go_wp2_with fail
        refine (CP.out _).mono ?_
        rintro e wx ⟨rfl, rfl⟩
        go_wp2_with fail
        refine (CF.out _).mono ?_
        rintro e w1 ⟨x1, x2, rfl, ho1, hb1⟩
        have hz1 : wr.heap.size ≤ w1.heap.size := hb1.size
        have KZ1 := Lib.hid (KZ.out.below hb1 KZ.out.lt)
        have KW1 := Lib.hid (KW.out.below hb1 KW.out.lt)
        have HOA1 := Lib.hid (HOA.out.below hb1)
        have HOF1 := Lib.hid (HOF.out.below hb1)
        have HBr1 : Hid (Below g0 w w1) := HBr.out.trans (hb1.mono (by omega))
        clear hb1 ho1
        obtain ⟨V, HV⟩ : ∃ U, Hid (w1.alloc (.cells #[.int .i64 pu, .int .i64 0, .int .i64 0, .int .i64 0, .slice (some ⟨x1, 0, none⟩) 0 0, .slice (some ⟨x2, 0, none⟩) 0 0] 56) = U) := ⟨_, rfl⟩
        have KP : Hid (Blk V w1.heap.size 56 #[.int .i64 pu, .int .i64 0, .int .i64 0, .int .i64 0, .slice (some ⟨x1, 0, none⟩) 0 0, .slice (some ⟨x2, 0, none⟩) 0 0]) := by rw [← HV.out]; exact Blk.new _ _ _
        have KZ2 : Hid (Blk V g0 35 #[.int .i64 0, .int .i64 0, .slice none 0 0, .slice none 0 0, .slice none 0 0, .slice none 0 0]) := by rw [← HV.out]; exact KZ1.out.alloc _
        have KW2 : Hid (Blk V gw 35 #[.int .i64 sec, .int .i64 (-1), .slice A1 k c1, .slice (some ⟨gl, 0, none⟩) 0 0, .slice A3 k c3, .slice (some ⟨gl + 1, 0, none⟩) 0 0]) := by rw [← HV.out]; exact KW1.out.alloc _
        have HOA2 : Hid (OwnRow HK2 V (g0 + 4) A3 c3 hs) := by rw [← HV.out]; exact HOA1.out.alloc _
        have HOF2 : Hid (OwnRow FK V (g0 + 4) A1 c1 fs) := by rw [← HV.out]; exact HOF1.out.alloc _
        have HBV : Hid (Below g0 w V) := by rw [← HV.out]; exact HBr1.out.alloc (by omega) _
        have hzV : w1.heap.size < V.heap.size := KP.out.lt
        obtain ⟨p0, p1, p2, p3, p4, p5⟩ := run_cells KP.out
        have q2 := (run_cells KW2.out).2.2.1
        have HMM : Hid ((fs ++ [(⟨newF pu, some ⟨x1, 0, none⟩, 0, some ⟨x2, 0, none⟩, 0⟩ : FH)]).length = k + 1) := by show _ = _; rw [List.length_append, HLF.out]; rfl
        go_upto_region 8 with fail
        rw [HV.out]
        go_upto_region 9 with (at_builtin; refine wpList_app_row (K := FK) Tryz.underlying30 HI0.out.1 HI0.out.2.1 HI0.out.2.2.1 HI0.out.2.2.2.1 HI0.out.2.2.2.2 (by decide) rfl (.tmp 49) (.tmp 51) rfl _ (g0 + 4) A1 c1 fs (by rw [HLF.out]; rfl) _ _ [(⟨newF pu, some ⟨x1, 0, none⟩, 0, some ⟨x2, 0, none⟩, 0⟩ : FH)] rfl (HOF2.out.alloc _) (one_newR FK V ⟨newF pu, some ⟨x1, 0, none⟩, 0, some ⟨x2, 0, none⟩, 0⟩ _) (by rw [HLF.out]; show k + 1 ≤ 1000000; omega) (by rw [World.size_alloc]; omega) (fun e => by cases e) ?_; intro v w3 hA; obtain ⟨Y, y, rfl, ho3⟩ := hA.own; have hb3 := hA.below; have HB3' : Hid (Below (g0 + 4) V w3) := ((Below.refl _ V).alloc (by omega) _).trans hb3; have HO3 := Lib.hid ho3; have HA3 : Hid (OwnRow HK2 w3 (g0 + 4) A3 c3 hs) := OwnRow.aside (HOF2.out.alloc _) (HOA2.out.alloc _) (by decide) hA.grown; have KZ3 := Lib.hid (KZ2.out.below HB3'.out (by omega)); have KW3 := Lib.hid (KW2.out.below HB3'.out (by omega)); have kf3 : w3.frozen? ⟨gw, 2, none⟩ = false := blk_frozen KW3.out 2; have q3 : w3.cell? ⟨gw, 2, none⟩ = some (.slice A1 k c1) := KW3.out.cell 2; clear hA ho3 hb3; rw [HMM.out])
        have hz3 : V.heap.size ≤ w3.heap.size := HB3'.out.size
        have HB3w : Hid (Below g0 w w3) := HBV.out.trans (HB3'.out.mono (by omega))
        obtain ⟨w4, HW4⟩ : ∃ U, Hid (w3.setCell ⟨gw, 2, none⟩ (.slice Y (k + 1) y) = U) := ⟨_, rfl⟩
        have HZ4 : Hid (w4.heap.size = w3.heap.size) := by show _ = _; rw [← HW4.out, World.size_setCell]
        have heap4 : Hid (∀ x, x ≠ gw → w4.heap[x]? = w3.heap[x]?) := fun x hx => by rw [← HW4.out]; exact Below.heap_setCell _ _ _ _ (by show x ≠ gw; exact hx)
        have HB4w : Hid (Below g0 w w4) := by rw [← HW4.out]; exact HB3w.out.setCell (p := ⟨gw, 2, none⟩) (by show g0 ≤ gw; omega) _
        have KZ4 : Hid (Blk w4 g0 35 #[.int .i64 0, .int .i64 0, .slice none 0 0, .slice none 0 0, .slice none 0 0, .slice none 0 0]) := by rw [← HW4.out]; exact KZ3.out.setOther (p := ⟨gw, 2, none⟩) (by show gw ≠ g0; omega) _
        have KW4 : Hid (Blk w4 gw 35 #[.int .i64 sec, .int .i64 (-1), .slice Y (k + 1) y, .slice (some ⟨gl, 0, none⟩) 0 0, .slice A3 k c3, .slice (some ⟨gl + 1, 0, none⟩) 0 0]) := by rw [← HW4.out]; exact KW3.out.setOwn 2 (.slice Y (k + 1) y)
        have HOF4 := Lib.hid (HO3.out.block (w' := w4) (fun g e => heap4.out g (by have := (HO3.out.lies g e).1; omega)))
        have HOA4 := Lib.hid (HA3.out.block (w' := w4) (fun g e => heap4.out g (by have := (HA3.out.lies g e).1; omega)))
        rw [HW4.out]
        clear p0 p1 p2 p3 p4 p5 q2 q3 kf3 HO3 HA3 KZ3 KW3
        have q4 := (run_cells KW4.out).2.2.2.2.1
        have HMN : Hid ((hs ++ [(⟨some ⟨w4.heap.size, 0, none⟩, 0, []⟩ : AH)]).length = k + 1) := by show _ = _; rw [List.length_append, HLH.out]; rfl
        go_wp2_with (at_builtin; refine wpList_app_row (K := HK2) Tryz.underlying32 HI2.out.1 HI2.out.2.1 HI2.out.2.2.1 HI2.out.2.2.2.1 HI2.out.2.2.2.2 (by decide) rfl (.tmp 55) (.tmp 57) rfl _ (g0 + 4) A3 c3 hs (by rw [HLH.out]; rfl) _ _ [(⟨some ⟨w4.heap.size, 0, none⟩, 0, []⟩ : AH)] rfl ((HOA4.out.alloc _).alloc _) (one_newG HK2 (w4.alloc (.cells #[] 105)) ⟨some ⟨w4.heap.size, 0, none⟩, 0, []⟩ _ (by simp)) (by rw [HLH.out]; show k + 1 ≤ 1000000; omega) (by rw [World.size_alloc, World.size_alloc]; have := HZ4.out; omega) (fun e => by cases e) ?_; intro v w5 hA; obtain ⟨X, x, rfl, ho5⟩ := hA.own; have hb5 := hA.below; have HB5' : Hid (Below (g0 + 4) w4 w5) := (((Below.refl _ w4).alloc (by have := HZ4.out; omega) _).alloc (by have := HZ4.out; rw [World.size_alloc]; omega) _).trans hb5; have HO5 := Lib.hid ho5; have HF5 : Hid (OwnRow FK w5 (g0 + 4) Y y (fs ++ [(⟨newF pu, some ⟨x1, 0, none⟩, 0, some ⟨x2, 0, none⟩, 0⟩ : FH)])) := OwnRow.aside ((HOA4.out.alloc _).alloc _) ((HOF4.out.alloc _).alloc _) (by decide) hA.grown; have KZ5 := Lib.hid (KZ4.out.below HB5'.out (by omega)); have KW5 := Lib.hid (KW4.out.below HB5'.out (by omega)); have kf5 : w5.frozen? ⟨gw, 4, none⟩ = false := blk_frozen KW5.out 4; have q5 : w5.cell? ⟨gw, 4, none⟩ = some (.slice A3 k c3) := KW5.out.cell 4; clear hA ho5 hb5; rw [HMN.out])
        have hz5 : w4.heap.size ≤ w5.heap.size := HB5'.out.size
        have HB5w : Hid (Below g0 w w5) := HB4w.out.trans (HB5'.out.mono (by omega))
        have HNF5 : Hid (newFs pu (fs ++ [(⟨newF pu, some ⟨x1, 0, none⟩, 0, some ⟨x2, 0, none⟩, 0⟩ : FH)])) := fun h hh => by
          rcases List.mem_append.1 hh with e | e
          · exact HNF.out h e
          · rw [List.mem_singleton.1 e]; exact ⟨rfl, rfl, rfl⟩
        have HNA5 : Hid (newAs (hs ++ [(⟨some ⟨w4.heap.size, 0, none⟩, 0, []⟩ : AH)])) := fun h hh => by
          rcases List.mem_append.1 hh with e | e
          · exact HNA.out h e
          · rw [List.mem_singleton.1 e]; exact ⟨rfl, rfl⟩
        clear q4
        go_wp2
        go_roundw
        case rel =>
          refine ⟨k + 1, Y, y, X, x, _, _, by omega, by go_num, HMM, HMN, HNF5, HNA5, ?_, ?_, ?_, ?_, ?_, ?_⟩
          · exact HB5w.out.setCell (p := ⟨gw, 4, none⟩) (by show g0 ≤ gw; omega) _
          · show g0 + 4 ≤ (w5.setCell _ _).heap.size; rw [World.size_setCell]; have := HZ4.out; omega
          · exact KZ5.out.setOther (p := ⟨gw, 4, none⟩) (by show gw ≠ g0; omega) _
          · exact KW5.out.setOwn 4 (.slice X (k + 1) x)
          · exact HF5.out.block (fun g e => Below.heap_setCell w5 ⟨gw, 4, none⟩ _ g (by have := (HF5.out.lies g e).1; show g ≠ gw; omega))
          · exact HO5.out.block (fun g e => Below.heap_setCell w5 ⟨gw, 4, none⟩ _ g (by have := (HO5.out.lies g e).1; show g ≠ gw; omega))
        case measure => simp [intOf]; omega
      · have hke : k = n := by omega
        subst hke
        obtain ⟨a0, a1, a2, a3, a4, a5⟩ := run_cells KW.out
        obtain ⟨b0, b1, b2, b3, b4, b5⟩ := run_cells KZ.out
        have kf := blk_frozen KZ.out
        have hkz := KZ.out.lt
        have hkw := KW.out.lt
        go_wp2
        obtain ⟨V, HV⟩ : ∃ V, Hid ((((((wr.setCell ⟨g0, 0, none⟩ (.int .i64 sec)).setCell ⟨g0, 1, none⟩ (.int .i64 (-1))).setCell ⟨g0, 2, none⟩ (.slice A1 k c1)).setCell ⟨g0, 3, none⟩ (.slice (some ⟨gl, 0, none⟩) 0 0)).setCell ⟨g0, 4, none⟩ (.slice A3 k c3)).setCell ⟨g0, 5, none⟩ (.slice (some ⟨gl + 1, 0, none⟩) 0 0) = V) := ⟨_, rfl⟩
        have hblk := Lib.hid (blk_six KZ.out (.int .i64 sec) (.int .i64 (-1)) (.slice A1 k c1) (.slice (some ⟨gl, 0, none⟩) 0 0) (.slice A3 k c3) (.slice (some ⟨gl + 1, 0, none⟩) 0 0))
        have hbel : Hid (Below g0 w V) := by
          rw [← HV.out]
          exact below_six HBr.out (Nat.le_refl _) _ _ _ _ _ _
        have heap : ∀ x, x ≠ g0 → V.heap[x]? = wr.heap[x]? := fun x hx => by
          rw [← HV.out]
          rw [Below.heap_setCell _ _ _ _ (by show x ≠ g0; exact hx), Below.heap_setCell _ _ _ _ (by show x ≠ g0; exact hx), Below.heap_setCell _ _ _ _ (by show x ≠ g0; exact hx), Below.heap_setCell _ _ _ _ (by show x ≠ g0; exact hx), Below.heap_setCell _ _ _ _ (by show x ≠ g0; exact hx), Below.heap_setCell _ _ _ _ (by show x ≠ g0; exact hx)]
        have h1 : Hid (OwnRow FK V (g0 + 4) A1 c1 fs) := HOF.out.block (fun g e => heap g (by have := (HOF.out.lies g e).1; omega))
        have h3 : Hid (OwnRow HK2 V (g0 + 4) A3 c3 hs) := HOA.out.block (fun g e => heap g (by have := (HOA.out.lies g e).1; omega))
        have HDATA : Hid (dataW sec (-1) ⟨A1, c1, fs, some ⟨gl, 0, none⟩, 0, A3, c3, hs, some ⟨gl + 1, 0, none⟩, 0, []⟩ [] = newW sec (k : Int) (-1)) := by
          show _ = _
          unfold dataW newW
          dsimp only
          rw [newFs_hfs HNF.out, newAs_has HNA.out, HLF.out, HLH.out, HPU.out, Int.toNat_natCast]
          rfl
        have HRUN := Lib.hid (newRun_at (g1 := gl) (g2 := gl + 1) h1.out h3.out HNF.out HNA.out)
        rw [HV.out] at hblk ⊢
        obtain ⟨c0, c1', c2, c3', c4, c5⟩ := run_cells hblk.out
        rw [← HG0.out] at hbel
        exact bodyPost_ret (v := .tuple #[.agg #[.int .i64 sec, .int .i64 (-1), .slice A1 k c1, .slice (some ⟨gl, 0, none⟩) 0 0, .slice A3 k c3, .slice (some ⟨gl + 1, 0, none⟩) 0 0], .bool true]) (by simp [results, Tryz.results20, go_sem, c0, c1', c2, c3', c4, c5]) rfl ⟨⟨A1, c1, fs, some ⟨gl, 0, none⟩, 0, A3, c3, hs, some ⟨gl + 1, 0, none⟩, 0, []⟩, rfl, HDATA.out, HRUN.out, hbel.out⟩
  · have e2 : (decide ((1 : Int) ≤ bad) && decide (bad ≤ (n : Int) - 1)) = true := by
      rcases HBAD.out with x | x
      · exact absurd x hb
      · rw [decide_eq_true x.1, decide_eq_true x.2]; rfl
    rw [e2] at C2
    have hb1 : (bad != -1) = true := bne_iff_ne.2 hb
    clear e2 hb
    go_wp2_with fail
    refine (C2.out _).mono ?_
    rintro e w' ⟨rfl, hw'⟩
    rw [hw']
    clear hw'
    go_upto_region 4 with fail
    rw [HW2.out, HW3.out]
    have hs1 := HS1.out
    have hs2 := HS2.out
    have hs3 := HS3.out
    have e2 : W2.heap.size = W1.heap.size + 1 + 1 := by omega
    rw [e2] at K3 hs2
    clear e2
    obtain ⟨gw, HGW⟩ : ∃ x, W1.heap.size + 1 + 1 = x := ⟨_, rfl⟩
    obtain ⟨gl, HGL⟩ : ∃ x, W1.heap.size = x := ⟨_, rfl⟩
    rw [HGW] at K3 hs2 ⊢
    rw [HGL] at K3 hs1 ⊢
    obtain ⟨g0, HG0⟩ : ∃ x, Hid (w.heap.size = x) := ⟨_, rfl⟩
    rw [HG0.out] at K03 HB3 hs1 hs2 hs3 ⊢
    have q10 : g0 < gl := by omega
    have q11 : gl + 1 < gw := by omega
    have q12 : gw < g0 + 4 := by omega
    have HZ3 : Hid (g0 + 4 ≤ W3.heap.size) := by show _ ≤ _; omega
    clear hs1 hs2 hs3
    go_wp2
    go_loopw [9] (fun i wr => ∃ (k : Nat) (A1 : Option Addr) (c1 : Nat) (A3 : Option Addr) (c3 : Nat) (fs : List FH) (hs : List AH), k ≤ n ∧ i = .int .i64 (k : Int) ∧ Hid (fs.length = k) ∧ Hid (hs.length = k) ∧ Hid (newFs pu fs) ∧ Hid (newAs hs) ∧ Hid (Below g0 w wr) ∧ Hid (g0 + 4 ≤ wr.heap.size) ∧ Hid (Blk wr g0 35 #[.int .i64 0, .int .i64 0, .slice none 0 0, .slice none 0 0, .slice none 0 0, .slice none 0 0]) ∧ Hid (Blk wr gw 35 #[.int .i64 sec, .int .i64 bad, .slice A1 k c1, .slice (some ⟨gl, 0, none⟩) 0 0, .slice A3 k c3, .slice (some ⟨gl + 1, 0, none⟩) 0 0]) ∧ Hid (OwnRow FK wr (g0 + 4) A1 c1 fs) ∧ Hid (OwnRow HK2 wr (g0 + 4) A3 c3 hs)) (fun i _ => n - (intOf i).toNat)
    case atStart => exact ⟨0, none, 0, none, 0, [], [], Nat.zero_le _, rfl, rfl, rfl, fun h hh => (by cases hh), fun h hh => (by cases hh), HB3, HZ3, K03, K3, OwnRow.zero FK W3 _, OwnRow.zero HK2 W3 _⟩
    case round =>
      obtain ⟨k, A1, c1, A3, c3, fs, hs, hk, rfl, HLF, HLH, HNF, HNA, HBr, HZr, KZ, KW, HOF, HOA⟩ := hrel
      have hzr := HZr.out
      by_cases hkn : k < n
      · have hki : (k : Int) < (n : Int) := by omega
        go_wp2_with fail
        refine (CP.out _).mono ?_
        rintro e wx ⟨rfl, rfl⟩
        go_wp2_with fail
        refine (CF.out _).mono ?_
        rintro e w1 ⟨x1, x2, rfl, ho1, hb1⟩
        have hz1 : wr.heap.size ≤ w1.heap.size := hb1.size
        have KZ1 := Lib.hid (KZ.out.below hb1 KZ.out.lt)
        have KW1 := Lib.hid (KW.out.below hb1 KW.out.lt)
        have HOA1 := Lib.hid (HOA.out.below hb1)
        have HOF1 := Lib.hid (HOF.out.below hb1)
        have HBr1 : Hid (Below g0 w w1) := HBr.out.trans (hb1.mono (by omega))
        clear hb1 ho1
        obtain ⟨V, HV⟩ : ∃ U, Hid (w1.alloc (.cells #[.int .i64 pu, .int .i64 0, .int .i64 0, .int .i64 0, .slice (some ⟨x1, 0, none⟩) 0 0, .slice (some ⟨x2, 0, none⟩) 0 0] 56) = U) := ⟨_, rfl⟩
        have KP : Hid (Blk V w1.heap.size 56 #[.int .i64 pu, .int .i64 0, .int .i64 0, .int .i64 0, .slice (some ⟨x1, 0, none⟩) 0 0, .slice (some ⟨x2, 0, none⟩) 0 0]) := by rw [← HV.out]; exact Blk.new _ _ _
        have KZ2 : Hid (Blk V g0 35 #[.int .i64 0, .int .i64 0, .slice none 0 0, .slice none 0 0, .slice none 0 0, .slice none 0 0]) := by rw [← HV.out]; exact KZ1.out.alloc _
        have KW2 : Hid (Blk V gw 35 #[.int .i64 sec, .int .i64 bad, .slice A1 k c1, .slice (some ⟨gl, 0, none⟩) 0 0, .slice A3 k c3, .slice (some ⟨gl + 1, 0, none⟩) 0 0]) := by rw [← HV.out]; exact KW1.out.alloc _
        have HOA2 : Hid (OwnRow HK2 V (g0 + 4) A3 c3 hs) := by rw [← HV.out]; exact HOA1.out.alloc _
        have HOF2 : Hid (OwnRow FK V (g0 + 4) A1 c1 fs) := by rw [← HV.out]; exact HOF1.out.alloc _
        have HBV : Hid (Below g0 w V) := by rw [← HV.out]; exact HBr1.out.alloc (by omega) _
        have hzV : w1.heap.size < V.heap.size := KP.out.lt
        obtain ⟨p0, p1, p2, p3, p4, p5⟩ := run_cells KP.out
        have q2 := (run_cells KW2.out).2.2.1
        have HMM : Hid ((fs ++ [(⟨newF pu, some ⟨x1, 0, none⟩, 0, some ⟨x2, 0, none⟩, 0⟩ : FH)]).length = k + 1) := by show _ = _; rw [List.length_append, HLF.out]; rfl
        go_upto_region 8 with fail
        rw [HV.out]
        go_upto_region 9 with (at_builtin; refine wpList_app_row (K := FK) Tryz.underlying30 HI0.out.1 HI0.out.2.1 HI0.out.2.2.1 HI0.out.2.2.2.1 HI0.out.2.2.2.2 (by decide) rfl (.tmp 49) (.tmp 51) rfl _ (g0 + 4) A1 c1 fs (by rw [HLF.out]; rfl) _ _ [(⟨newF pu, some ⟨x1, 0, none⟩, 0, some ⟨x2, 0, none⟩, 0⟩ : FH)] rfl (HOF2.out.alloc _) (one_newR FK V ⟨newF pu, some ⟨x1, 0, none⟩, 0, some ⟨x2, 0, none⟩, 0⟩ _) (by rw [HLF.out]; show k + 1 ≤ 1000000; omega) (by rw [World.size_alloc]; omega) (fun e => by cases e) ?_; intro v w3 hA; obtain ⟨Y, y, rfl, ho3⟩ := hA.own; have hb3 := hA.below; have HB3' : Hid (Below (g0 + 4) V w3) := ((Below.refl _ V).alloc (by omega) _).trans hb3; have HO3 := Lib.hid ho3; have HA3 : Hid (OwnRow HK2 w3 (g0 + 4) A3 c3 hs) := OwnRow.aside (HOF2.out.alloc _) (HOA2.out.alloc _) (by decide) hA.grown; have KZ3 := Lib.hid (KZ2.out.below HB3'.out (by omega)); have KW3 := Lib.hid (KW2.out.below HB3'.out (by omega)); have kf3 : w3.frozen? ⟨gw, 2, none⟩ = false := blk_frozen KW3.out 2; have q3 : w3.cell? ⟨gw, 2, none⟩ = some (.slice A1 k c1) := KW3.out.cell 2; clear hA ho3 hb3; rw [HMM.out])
        have hz3 : V.heap.size ≤ w3.heap.size := HB3'.out.size
        have HB3w : Hid (Below g0 w w3) := HBV.out.trans (HB3'.out.mono (by omega))
        obtain ⟨w4, HW4⟩ : ∃ U, Hid (w3.setCell ⟨gw, 2, none⟩ (.slice Y (k + 1) y) = U) := ⟨_, rfl⟩
        have HZ4 : Hid (w4.heap.size = w3.heap.size) := by show _ = _; rw [← HW4.out, World.size_setCell]
        have heap4 : Hid (∀ x, x ≠ gw → w4.heap[x]? = w3.heap[x]?) := fun x hx => by rw [← HW4.out]; exact Below.heap_setCell _ _ _ _ (by show x ≠ gw; exact hx)
        have HB4w : Hid (Below g0 w w4) := by rw [← HW4.out]; exact HB3w.out.setCell (p := ⟨gw, 2, none⟩) (by show g0 ≤ gw; omega) _
        have KZ4 : Hid (Blk w4 g0 35 #[.int .i64 0, .int .i64 0, .slice none 0 0, .slice none 0 0, .slice none 0 0, .slice none 0 0]) := by rw [← HW4.out]; exact KZ3.out.setOther (p := ⟨gw, 2, none⟩) (by show gw ≠ g0; omega) _
        have KW4 : Hid (Blk w4 gw 35 #[.int .i64 sec, .int .i64 bad, .slice Y (k + 1) y, .slice (some ⟨gl, 0, none⟩) 0 0, .slice A3 k c3, .slice (some ⟨gl + 1, 0, none⟩) 0 0]) := by rw [← HW4.out]; exact KW3.out.setOwn 2 (.slice Y (k + 1) y)
        have HOF4 := Lib.hid (HO3.out.block (w' := w4) (fun g e => heap4.out g (by have := (HO3.out.lies g e).1; omega)))
        have HOA4 := Lib.hid (HA3.out.block (w' := w4) (fun g e => heap4.out g (by have := (HA3.out.lies g e).1; omega)))
        rw [HW4.out]
        clear p0 p1 p2 p3 p4 p5 q2 q3 kf3 HO3 HA3 KZ3 KW3
        have q4 := (run_cells KW4.out).2.2.2.2.1
        have HMN : Hid ((hs ++ [(⟨some ⟨w4.heap.size, 0, none⟩, 0, []⟩ : AH)]).length = k + 1) := by show _ = _; rw [List.length_append, HLH.out]; rfl
        go_wp2_with (at_builtin; refine wpList_app_row (K := HK2) Tryz.underlying32 HI2.out.1 HI2.out.2.1 HI2.out.2.2.1 HI2.out.2.2.2.1 HI2.out.2.2.2.2 (by decide) rfl (.tmp 55) (.tmp 57) rfl _ (g0 + 4) A3 c3 hs (by rw [HLH.out]; rfl) _ _ [(⟨some ⟨w4.heap.size, 0, none⟩, 0, []⟩ : AH)] rfl ((HOA4.out.alloc _).alloc _) (one_newG HK2 (w4.alloc (.cells #[] 105)) ⟨some ⟨w4.heap.size, 0, none⟩, 0, []⟩ _ (by simp)) (by rw [HLH.out]; show k + 1 ≤ 1000000; omega) (by rw [World.size_alloc, World.size_alloc]; have := HZ4.out; omega) (fun e => by cases e) ?_; intro v w5 hA; obtain ⟨X, x, rfl, ho5⟩ := hA.own; have hb5 := hA.below; have HB5' : Hid (Below (g0 + 4) w4 w5) := (((Below.refl _ w4).alloc (by have := HZ4.out; omega) _).alloc (by have := HZ4.out; rw [World.size_alloc]; omega) _).trans hb5; have HO5 := Lib.hid ho5; have HF5 : Hid (OwnRow FK w5 (g0 + 4) Y y (fs ++ [(⟨newF pu, some ⟨x1, 0, none⟩, 0, some ⟨x2, 0, none⟩, 0⟩ : FH)])) := OwnRow.aside ((HOA4.out.alloc _).alloc _) ((HOF4.out.alloc _).alloc _) (by decide) hA.grown; have KZ5 := Lib.hid (KZ4.out.below HB5'.out (by omega)); have KW5 := Lib.hid (KW4.out.below HB5'.out (by omega)); have kf5 : w5.frozen? ⟨gw, 4, none⟩ = false := blk_frozen KW5.out 4; have q5 : w5.cell? ⟨gw, 4, none⟩ = some (.slice A3 k c3) := KW5.out.cell 4; clear hA ho5 hb5; rw [HMN.out])
        have hz5 : w4.heap.size ≤ w5.heap.size := HB5'.out.size
        have HB5w : Hid (Below g0 w w5) := HB4w.out.trans (HB5'.out.mono (by omega))
        have HNF5 : Hid (newFs pu (fs ++ [(⟨newF pu, some ⟨x1, 0, none⟩, 0, some ⟨x2, 0, none⟩, 0⟩ : FH)])) := fun h hh => by
          rcases List.mem_append.1 hh with e | e
          · exact HNF.out h e
          · rw [List.mem_singleton.1 e]; exact ⟨rfl, rfl, rfl⟩
        have HNA5 : Hid (newAs (hs ++ [(⟨some ⟨w4.heap.size, 0, none⟩, 0, []⟩ : AH)])) := fun h hh => by
          rcases List.mem_append.1 hh with e | e
          · exact HNA.out h e
          · rw [List.mem_singleton.1 e]; exact ⟨rfl, rfl⟩
        clear q4
        go_wp2
        go_roundw
        case rel =>
          refine ⟨k + 1, Y, y, X, x, _, _, by omega, by go_num, HMM, HMN, HNF5, HNA5, ?_, ?_, ?_, ?_, ?_, ?_⟩
          · exact HB5w.out.setCell (p := ⟨gw, 4, none⟩) (by show g0 ≤ gw; omega) _
          · show g0 + 4 ≤ (w5.setCell _ _).heap.size; rw [World.size_setCell]; have := HZ4.out; omega
          · exact KZ5.out.setOther (p := ⟨gw, 4, none⟩) (by show gw ≠ g0; omega) _
          · exact KW5.out.setOwn 4 (.slice X (k + 1) x)
          · exact HF5.out.block (fun g e => Below.heap_setCell w5 ⟨gw, 4, none⟩ _ g (by have := (HF5.out.lies g e).1; show g ≠ gw; omega))
          · exact HO5.out.block (fun g e => Below.heap_setCell w5 ⟨gw, 4, none⟩ _ g (by have := (HO5.out.lies g e).1; show g ≠ gw; omega))
        case measure => simp [intOf]; omega
      · have hke : k = n := by omega
        subst hke
        obtain ⟨a0, a1, a2, a3, a4, a5⟩ := run_cells KW.out
        obtain ⟨b0, b1, b2, b3, b4, b5⟩ := run_cells KZ.out
        have kf := blk_frozen KZ.out
        have hkz := KZ.out.lt
        have hkw := KW.out.lt
        go_wp2
        obtain ⟨V, HV⟩ : ∃ V, Hid ((((((wr.setCell ⟨g0, 0, none⟩ (.int .i64 sec)).setCell ⟨g0, 1, none⟩ (.int .i64 bad)).setCell ⟨g0, 2, none⟩ (.slice A1 k c1)).setCell ⟨g0, 3, none⟩ (.slice (some ⟨gl, 0, none⟩) 0 0)).setCell ⟨g0, 4, none⟩ (.slice A3 k c3)).setCell ⟨g0, 5, none⟩ (.slice (some ⟨gl + 1, 0, none⟩) 0 0) = V) := ⟨_, rfl⟩
        have hblk := Lib.hid (blk_six KZ.out (.int .i64 sec) (.int .i64 bad) (.slice A1 k c1) (.slice (some ⟨gl, 0, none⟩) 0 0) (.slice A3 k c3) (.slice (some ⟨gl + 1, 0, none⟩) 0 0))
        have hbel : Hid (Below g0 w V) := by
          rw [← HV.out]
          exact below_six HBr.out (Nat.le_refl _) _ _ _ _ _ _
        have heap : ∀ x, x ≠ g0 → V.heap[x]? = wr.heap[x]? := fun x hx => by
          rw [← HV.out]
          rw [Below.heap_setCell _ _ _ _ (by show x ≠ g0; exact hx), Below.heap_setCell _ _ _ _ (by show x ≠ g0; exact hx), Below.heap_setCell _ _ _ _ (by show x ≠ g0; exact hx), Below.heap_setCell _ _ _ _ (by show x ≠ g0; exact hx), Below.heap_setCell _ _ _ _ (by show x ≠ g0; exact hx), Below.heap_setCell _ _ _ _ (by show x ≠ g0; exact hx)]
        have h1 : Hid (OwnRow FK V (g0 + 4) A1 c1 fs) := HOF.out.block (fun g e => heap g (by have := (HOF.out.lies g e).1; omega))
        have h3 : Hid (OwnRow HK2 V (g0 + 4) A3 c3 hs) := HOA.out.block (fun g e => heap g (by have := (HOA.out.lies g e).1; omega))
        have HDATA : Hid (dataW sec bad ⟨A1, c1, fs, some ⟨gl, 0, none⟩, 0, A3, c3, hs, some ⟨gl + 1, 0, none⟩, 0, []⟩ [] = newW sec (k : Int) bad) := by
          show _ = _
          unfold dataW newW
          dsimp only
          rw [newFs_hfs HNF.out, newAs_has HNA.out, HLF.out, HLH.out, HPU.out, Int.toNat_natCast]
          rfl
        have HRUN := Lib.hid (newRun_at (g1 := gl) (g2 := gl + 1) h1.out h3.out HNF.out HNA.out)
        rw [HV.out] at hblk ⊢
        obtain ⟨c0, c1', c2, c3', c4, c5⟩ := run_cells hblk.out
        rw [← HG0.out] at hbel
        exact bodyPost_ret (v := .tuple #[.agg #[.int .i64 sec, .int .i64 bad, .slice A1 k c1, .slice (some ⟨gl, 0, none⟩) 0 0, .slice A3 k c3, .slice (some ⟨gl + 1, 0, none⟩) 0 0], .bool true]) (by simp [results, Tryz.results20, go_sem, c0, c1', c2, c3', c4, c5]) rfl ⟨⟨A1, c1, fs, some ⟨gl, 0, none⟩, 0, A3, c3, hs, some ⟨gl + 1, 0, none⟩, 0, []⟩, rfl, HDATA.out, HRUN.out, hbel.out⟩
end Go.Proofs.YtkmebilhbjcfpaaGreat
