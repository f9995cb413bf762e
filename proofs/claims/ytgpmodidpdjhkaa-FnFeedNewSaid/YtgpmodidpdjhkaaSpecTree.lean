/- Contracts of the model's functions over trees: l2Root, l2Cover, l2Fold, TreePeaks, TreeDigest. Conditions: the leaves lie in memory; of the inner functions, that they are valid. -/
import Derived.Test.YtgpmodidpdjhkaaLists
import Derived.Test.YtgpmodidpdjhkaaSizes
namespace Go.Proofs.Ytgpmodidpdjhkaa
open Go.RowKit
set_option linter.unusedVariables false

theorem quiet_left {P : Program} {f : FuncId} {args : Array Value} {w : World} {n : Nat} {v : Value}
    (h : Calls P f args (w.drewN n) fun e w' => e = .returned v ∧ w.drewN n = w') : Calls P f args (w.drewN n) fun e w'' => e = .returned v ∧ ∃ m, w'' = w.drewN m :=
  h.mono fun _ _ ⟨he, hm⟩ => ⟨he, n, hm.symm⟩

theorem rootG_step {α : Type} (pr : α → α → α) (z : α) (f : Nat) (l : List α) (h : 2 ≤ l.length) : rootG pr z (f + 1) l = pr (rootG pr z f (l.take (l.length / 2))) (rootG pr z f (l.drop (l.length / 2))) := by
  show (if _ then _ else _) = _
  rw [if_neg (by omega)]
theorem rootG_one {α : Type} (pr : α → α → α) (z : α) (f : Nat) (l : List α) (h : l.length = 1) : rootG pr z f l = l.headD z := by
  cases f with
  | zero => rfl
  | succ f => show (if _ then _ else _) = _; rw [if_pos (by omega)]
theorem rootG_fuel {α : Type} (pr : α → α → α) (z : α) : ∀ f g (l : List α), 1 ≤ l.length → l.length ≤ 2 ^ f → l.length ≤ 2 ^ g → rootG pr z f l = rootG pr z g l := by
  intro f
  induction f with
  | zero => intro g l h1 hf hg; rw [rootG_one pr z g l (by simp at hf; omega)]; rfl
  | succ f ih =>
    intro g l h1 hf hg
    by_cases h2 : 2 ≤ l.length
    · cases g with
      | zero => simp at hg; omega
      | succ g =>
        rw [Nat.pow_succ] at hf hg
        rw [rootG_step pr z f l h2, rootG_step pr z g l h2, ih g _ (by rw [List.length_take]; omega) (by rw [List.length_take]; omega) (by rw [List.length_take]; omega), ih g _ (by rw [List.length_drop]; omega) (by rw [List.length_drop]; omega) (by rw [List.length_drop]; omega)]
    · rw [rootG_one pr z (f + 1) l (by omega), rootG_one pr z g l (by omega)]
theorem headD_nth (zs : List Int) : zs.headD 0 = nth zs 0 := by cases zs <;> rfl
theorem rootZ_bd : ∀ f (zs : List Int), Digs zs → 1 ≤ zs.length → 0 ≤ rootG pairZ 0 f zs ∧ rootG pairZ 0 f zs < 991 := by
  have one : ∀ zs : List Int, Digs zs → 1 ≤ zs.length → 0 ≤ zs.headD 0 ∧ zs.headD 0 < 991 := by
    intro zs hd h1
    cases zs with
    | nil => simp at h1
    | cons a l => exact hd a (by simp)
  intro f zs hd h1
  cases f with
  | zero => exact one zs hd h1
  | succ f =>
    by_cases h2 : 2 ≤ zs.length
    · rw [rootG_step pairZ 0 f zs h2]; exact pairZ_bd _ _
    · rw [rootG_one pairZ 0 (f + 1) zs (by omega)]; exact one zs hd h1
theorem Digs.take {zs : List Int} (h : Digs zs) (k : Nat) : Digs (zs.take k) := fun x hx => h x (List.mem_of_mem_take hx)
theorem Digs.drop {zs : List Int} (h : Digs zs) (k : Nat) : Digs (zs.drop k) := fun x hx => h x (List.mem_of_mem_drop hx)
theorem Digs.at_ {zs : List Int} (h : Digs zs) (k : Nat) (hk : k < zs.length) : 0 ≤ nth zs k ∧ nth zs k < 991 := by
  refine h (nth zs k) ?_
  unfold nth
  rw [List.getD_eq_getElem?_getD, List.getElem?_eq_getElem hk]
  exact List.getElem_mem hk

set_option maxHeartbeats 2000000 in
theorem sroot_go : ∀ (f : Nat) (zs : List Int) (b o cap : Nat) (w : World), IntsAt w w.heap.size (some ⟨b, o, none⟩) zs → 1 ≤ zs.length → zs.length ≤ 2 ^ f → zs.length ≤ 16 → zs.length ≤ cap → cap ≤ maxLen → Digs zs →
    Calls Try.prog 106 #[.slice (some ⟨b, o, none⟩) zs.length cap] w fun e w' => e = .returned (.int .i64 (rootG pairZ 0 f zs)) ∧ ∃ q, w' = w.drewN q := by
  intro f
  induction f with
  | zero =>
    intro zs b o cap w hI h1 hf h16 hcap hmax hd
    have hn1 : zs.length = 1 := by simp at hf; omega
    have hc := (hI.lt (by omega)).2 0 (by omega)
    rw [Nat.add_zero] at hc
    have HE := Lib.hid (rootG_one pairZ 0 0 zs hn1)
    have HN := Lib.hid hn1
    rw [hn1]
    clear hI hf hd h1 h16 hn1 hcap
    go_enter Try.func106, Try.ntmps106
    go_wp2
    go_ret
    exact ⟨ret_int (by rw [HE.out, headD_nth]), 0, rfl⟩
  | succ f ih =>
    intro zs b o cap w hI h1 hf h16 hcap hmax hd
    by_cases h2 : 2 ≤ zs.length
    · obtain ⟨n, HN⟩ : ∃ n, Hid (zs.length = n) := ⟨_, rfl⟩
      have HE := Lib.hid (rootG_step pairZ 0 f zs h2)
      have hn2 : 2 ≤ n := by rw [← HN.out]; exact h2
      have hn16 : n ≤ 16 := by rw [← HN.out]; exact h16
      have hnc : n ≤ cap := by rw [← HN.out]; exact hcap
      have hnf : n ≤ 2 ^ f * 2 := by rw [← HN.out, ← Nat.pow_succ]; exact hf
      obtain ⟨h, HH⟩ : ∃ h, Hid (n / 2 = h) := ⟨_, rfl⟩
      have hh1 : 1 ≤ h := by have := HH.out; omega
      have hh2 : h < n := by have := HH.out; omega
      have hh3 : h ≤ 2 ^ f := by have := HH.out; omega
      have hh4 : n - h ≤ 2 ^ f := by have := HH.out; omega
      have hl1 : (zs.take h).length = h := by rw [List.length_take, HN.out]; omega
      have hl2 : (zs.drop h).length = n - h := by rw [List.length_drop, HN.out]
      obtain ⟨r1, HR1⟩ : ∃ r, Hid (rootG pairZ 0 f (zs.take h) = r) := ⟨_, rfl⟩
      obtain ⟨r2, HR2⟩ : ∃ r, Hid (rootG pairZ 0 f (zs.drop h) = r) := ⟨_, rfl⟩
      have C1 : Hid (∀ q, Calls Try.prog 106 #[.slice (some ⟨b, o, none⟩) h cap] (w.drewN q) fun e w' => e = .returned (.int .i64 r1) ∧ ∃ m, w' = w.drewN m) := fun q => by
        have := ih (zs.take h) b o cap (w.drewN q) ((hI.first h).drewN q) (by omega) (by omega) (by omega) (by omega) hmax (hd.take h)
        rw [hl1, HR1.out] at this
        exact Calls.quiet_of this
      have C2 : Hid (∀ q, Calls Try.prog 106 #[.slice (some ⟨b, o + h, none⟩) (n - h) (cap - h)] (w.drewN q) fun e w' => e = .returned (.int .i64 r2) ∧ ∃ m, w' = w.drewN m) := fun q => by
        have hp := hI.part h n rfl
        rw [List.take_of_length_le (by omega)] at hp
        have := ih (zs.drop h) b (o + h) (cap - h) (w.drewN q) (hp.drewN q) (by omega) (by omega) (by omega) (by omega) (by omega) (hd.drop h)
        rw [hl2, HR2.out] at this
        exact Calls.quiet_of this
      have b1 := rootZ_bd f (zs.take h) (hd.take h) (by omega)
      have b2 := rootZ_bd f (zs.drop h) (hd.drop h) (by omega)
      rw [HR1.out] at b1
      rw [HR2.out] at b2
      obtain ⟨b10, b11⟩ := b1
      obtain ⟨b20, b21⟩ := b2
      unfold maxLen at hmax
      have hi0 : (0 : Int) ≤ (h : Int) := by omega
      have hi1 : (h : Int) ≤ (n : Int) := by omega
      have hi2 : (h : Int) ≤ (cap : Int) := by omega
      have hi3 : (n : Int) ≤ (cap : Int) := by omega
      have hne : ¬ cap = h := by omega
      have h2n : ((n : Int) == 1) = false := by simp; omega
      rw [HN.out]
      clear hI hf hd h1 h16 hcap h2 ih hnf hl1 hl2
      go_enter Try.func106, Try.ntmps106
      go_wp2_with fail
      rw [show ((n : Int) / 2) = (h : Int) from by have := HH.out; omega]
      go_quiet (first
        | (go_at_call 106; with_reducible exact C1.out _)
        | (go_at_call 106; with_reducible exact C2.out _)
        | (go_at_call 115; exact quiet_left (spair1_any _ _ _ (by omega) (by omega) (by omega) (by omega))))
      go_wp2
      go_ret
      exact ⟨ret_int (by rw [HE.out, HN.out, HH.out, HR1.out, HR2.out]), _, rfl⟩
    · have hn1 : zs.length = 1 := by omega
      have hc := (hI.lt (by omega)).2 0 (by omega)
      rw [Nat.add_zero] at hc
      have HE := Lib.hid (rootG_one pairZ 0 (f + 1) zs hn1)
      rw [hn1]
      clear hI hf hd h1 h16 hn1 hcap ih h2
      go_enter Try.func106, Try.ntmps106
      go_wp2
      go_ret
      exact ⟨ret_int (by rw [HE.out, headD_nth]), 0, rfl⟩

end Go.Proofs.Ytgpmodidpdjhkaa
