/- Contracts of the exact laws' helpers over slices of texts: toStringS copies, markStringS writes numbers as texts through a slice of the call's own, heldStringS looks whether it still holds that. Conditions: the slices lie in memory and have at most 2^20 elements. Contracts of the laws' functions sameFeed and eqFeed at two feeds that read alike: both answer true, and change nothing that was there. Condition: the feeds lie in memory. -/
import Derived.Test.YtkmebilhbjcfpaaBaseD
import Derived.Test.YtkmebilhbjcfpaaBaseA
import Derived.Deep.RegionHeld3
import Derived.Test.YtkmebilhbjcfpaaBaseH
import Derived.Deep.OwnRows
import Derived.Test.YtkmebilhbjcfpaaBaseE
namespace Go.Proofs.Ytkmebilhbjcfpaa
open Go.RowKit
set_option linter.unusedVariables false

def noS (k : Nat) : List ByteArray := List.replicate k ByteArray.empty
theorem noS_length (k : Nat) : (noS k).length = k := List.length_replicate
theorem madeCells_sals (n : Nat) : madeCells #[Value.string ByteArray.empty] n = (sals (noS n)).toArray := by
  apply Array.ext'
  rw [toList_madeCells_one]
  simp [sals, noS]
theorem owns_made (w : World) (n : Nat) (hn : n ≤ 1048576) : OwnStrs (w.alloc (.cells (sals (noS n)).toArray 9)) w.heap.size (some ⟨w.heap.size, 0, none⟩) n (noS n) := by
  have := World.ownsRow_lit (e := 9) (size := 1) w (sals (noS n)).toArray n (Nat.le_refl _) (by unfold maxLen; omega) (by rw [List.size_toArray, sals_length, noS_length]; omega)
  unfold OwnStrs
  rw [noS_length]
  exact this
theorem owns_stored {w : World} {base b cap : Nat} {zs : List ByteArray} (h : OwnStrs w base (some ⟨b, 0, none⟩) cap zs) (j : Nat) (x : ByteArray) : OwnStrs (w.setCell ⟨b, j, none⟩ (.string x)) base (some ⟨b, 0, none⟩) cap (zs.set j x) ∧ w.grownBy (w.setCell ⟨b, j, none⟩ (.string x)) (some b) := by
  have := World.ownsRow.stored h j (.string x)
  refine ⟨?_, this.2⟩
  unfold OwnStrs
  rw [List.length_set]
  have e : sals (zs.set j x) = (sals zs).set j (vs x) := by unfold sals; rw [List.map_set]
  rw [e]
  exact this.1
theorem owns_cell {w : World} {base b cap : Nat} {zs : List ByteArray} (h : OwnStrs w base (some ⟨b, 0, none⟩) cap zs) (j : Nat) (hj : j < zs.length) : w.cell? ⟨b, j, none⟩ = some (.string (sth zs j)) ∧ w.frozen? ⟨b, j, none⟩ = false := by
  have h1 := (h.ints.lt (by omega)).2 j hj
  rw [Nat.zero_add] at h1
  exact ⟨h1, World.ownsRow.frozenAt h j⟩
theorem copys_step (zs : List ByteArray) (k n : Nat) (hn : zs.length = n) (hk : k < n) : (zs.take k ++ noS (n - k)).set k (sth zs k) = zs.take (k + 1) ++ noS (n - (k + 1)) := by
  have hl : (zs.take k).length = k := by rw [List.length_take]; omega
  have e : n - k = (n - (k + 1)) + 1 := by omega
  have hz : noS (n - k) = ByteArray.empty :: noS (n - (k + 1)) := by rw [e]; rfl
  have ht : zs.take (k + 1) = zs.take k ++ [sth zs k] := by
    rw [List.take_succ_eq_append_getElem (by omega), sth, List.getD_eq_getElem?_getD, List.getElem?_eq_getElem (by omega)]; rfl
  rw [hz, ht, List.set_append_right _ _ (by omega), hl, Nat.sub_self, List.append_assoc]
  rfl
theorem sth_noS (zs : List ByteArray) (k n : Nat) (hn : zs.length = n) (hk : k < n) : (zs.take k ++ noS (n - k)).length = n := by rw [List.length_append, List.length_take, noS_length]; omega

def CopiedS (w : World) (zs : List ByteArray) (e : Ending) (w' : World) : Prop :=
  e = .returned (.slice (some ⟨w.heap.size, 0, none⟩) zs.length zs.length) ∧ OwnStrs w' w.heap.size (some ⟨w.heap.size, 0, none⟩) zs.length zs ∧ Below w.heap.size w w'



/-- The digits of k in front of out. -/
def decT : Nat → Nat → ByteArray → ByteArray
  | 0, _, out => out
  | f + 1, k, out => if k = 0 then out else decT f (k / 10) (ByteArray.empty.push (48 + UInt8.ofNat (k % 10)) ++ out)
theorem decT_zero (f : Nat) (out : ByteArray) : decT f 0 out = out := by cases f <;> simp [decT]
theorem decT_succ (f k : Nat) (out : ByteArray) (hk : 0 < k) : decT (f + 1) k out = decT f (k / 10) (ByteArray.empty.push (48 + UInt8.ofNat (k % 10)) ++ out) := by
  simp only [decT, if_neg (show ¬ k = 0 by omega)]
def letterM : ByteArray := ⟨#[109]⟩
def markT (k : Nat) : ByteArray := letterM ++ decT k k ByteArray.empty
theorem pow_div (j m : Nat) (h : j < 10 ^ (m + 1)) : j / 10 < 10 ^ m := Nat.div_lt_of_lt_mul (by rw [Nat.pow_succ, Nat.mul_comm] at h; exact h)

/-- Where the loop of markText stands. -/
def Deci (w : World) (R : ByteArray) (x o : Value) (w' : World) : Prop :=
  ∃ (j f m : Nat) (out : ByteArray), x = .int .i64 (j : Int) ∧ o = .string out ∧ j ≤ f ∧ out.size + m = 10 ∧ j < 10 ^ m ∧ j ≤ 100000000 ∧ Hid (decT f j out = R) ∧ Hid (Below w.heap.size w w')

set_option maxHeartbeats 2000000 in
theorem markText_any (k : Nat) (w : World) (h0 : 1 ≤ k) (h1 : k ≤ 4000000) :
    Calls Try.prog 68 #[.int .i64 (k : Int)] w fun e w' => e = .returned (.string (markT k)) ∧ Below w.heap.size w w' := by
  have hk : ¬ (k : Int) ≤ 0 := by omega
  have HM : Hid (markT k = letterM ++ decT k k ByteArray.empty) := rfl
  go_enter Try.func68, Try.ntmps68
  go_wp2
  go_loopw [0, 3] (Deci w (decT k k ByteArray.empty)) (fun x _ _ => (intOf x).toNat)
  case atStart => exact ⟨k, k, 10, ByteArray.empty, rfl, rfl, Nat.le_refl _, rfl, by omega, by omega, rfl, Below.refl _ _⟩
  case round =>
    obtain ⟨j, f, m, out, rfl, rfl, hjf, hsz, hp, hj8, HD, HB⟩ := hrel
    have hss : out.size ≤ 10 := by omega
    have hwz := HB.out.size
    by_cases hj : 0 < j
    · obtain ⟨f', rfl⟩ : ∃ f', f = f' + 1 := ⟨f - 1, by omega⟩
      obtain ⟨m', rfl⟩ : ∃ m', m = m' + 1 := ⟨m - 1, by
        cases m with
        | zero => simp at hp; omega
        | succ m => omega⟩
      have HD' : Hid (decT f' (j / 10) (ByteArray.empty.push (48 + UInt8.ofNat (j % 10)) ++ out) = decT k k ByteArray.empty) := by show _ = _; rw [← decT_succ f' j out hj]; exact HD.out
      have HP := Lib.hid (pow_div j m' hp)
      have HBS : Hid (Below w.heap.size w (wr.alloc (.cells #[.int .u8 (48 + ((j % 10 : Nat) : Int))] 5))) := HB.out.alloc hwz _
      have hsz' : (ByteArray.empty.push (48 + UInt8.ofNat (j % 10)) ++ out).size + m' = 10 := by
        rw [ByteArray.size_append]
        show 1 + out.size + m' = 10
        omega
      have HSZ := Lib.hid hsz'
      obtain ⟨y, HY⟩ : ∃ y : Nat, Hid (j % 10 = y) := ⟨_, rfl⟩
      have hy9 : y ≤ 9 := by have := HY.out; omega
      have hrem : (j : Int).tmod 10 = (y : Int) := by rw [← HY.out]; exact tmod_nat j 10
      have hquo : (j : Int).tdiv 10 = ((j / 10 : Nat) : Int) := tdiv_nat j 10
      rw [HY.out] at HD' HBS HSZ
      have hcv := run_one_byte wr (48 + (y : Int))
      have hone : (ByteArray.empty.push (UInt8.ofNat ((48 : Int) + (y : Int)).toNat)).size = 1 := rfl
      have hji : (0 : Int) < (j : Int) := by omega
      clear hp hsz hsz'
      go_wp2_with fail
      exact ⟨⟨j / 10, f', m', _, by go_num, rfl, by omega, HSZ.out, HP.out, by omega, HD', HBS⟩, by simp [intOf]; omega⟩
    · have hj0 : j = 0 := by omega
      subst hj0
      have HD0 : Hid (out = decT k k ByteArray.empty) := by show _ = _; rw [← HD.out, decT_zero]
      go_wp2
      go_ret
      exact ⟨by rw [HM.out, ← HD0.out]; rfl, HB.out⟩

def smarks : Nat → Nat → List ByteArray
  | _, 0 => []
  | j, n + 1 => markT j :: smarks (j + 1) n
theorem smarks_length : ∀ j n, (smarks j n).length = n := by
  intro j n
  induction n generalizing j with
  | zero => rfl
  | succ n ih => show (smarks (j + 1) n).length + 1 = n + 1; rw [ih]
theorem smarks_sth : ∀ j n k, k < n → sth (smarks j n) k = markT (j + k) := by
  intro j n
  induction n generalizing j with
  | zero => intro k h; omega
  | succ n ih =>
    intro k h
    cases k with
    | zero => rfl
    | succ k =>
      have := ih (j + 1) k (by omega)
      show sth (smarks (j + 1) n) k = _
      rw [this, Nat.add_assoc, Nat.add_comm 1 k]
theorem smarks_snoc : ∀ j k, smarks j (k + 1) = smarks j k ++ [markT (j + k)] := by
  intro j k
  induction k generalizing j with
  | zero => rfl
  | succ k ih =>
    show markT j :: smarks (j + 1) (k + 1) = markT j :: smarks (j + 1) k ++ [_]
    rw [ih (j + 1), Nat.add_assoc, Nat.add_comm 1 k]
    rfl
theorem smarks_step (zs : List ByteArray) (j k : Nat) (hk : k < zs.length) : (smarks j k ++ zs.drop k).set k (markT (j + k)) = smarks j (k + 1) ++ zs.drop (k + 1) := by
  have hd := List.drop_eq_getElem_cons hk
  rw [smarks_snoc, List.set_append_right _ _ (by rw [smarks_length]; omega), smarks_length, Nat.sub_self, hd, List.append_assoc]
  rfl

def MarkedS (w : World) (base : Nat) (A : Option Addr) (cap : Nat) (k0 n : Nat) (e : Ending) (w' : World) : Prop :=
  e = .returned (.int .i64 ((k0 + n : Nat) : Int)) ∧ OwnStrs w' base A cap (smarks k0 n) ∧ (∀ b, A = some ⟨b, 0, none⟩ → w.grownBy w' (some b)) ∧ (A = none → w = w')

set_option maxHeartbeats 2000000 in
theorem marks_some (base b cap k0 : Nat) (zs : List ByteArray) (w : World) (hO : OwnStrs w base (some ⟨b, 0, none⟩) cap zs) (hm : zs.length ≤ 1048576) (hk1 : 1 ≤ k0) (hk0 : k0 ≤ 2000000) :
    Calls Try.prog 65 #[.slice (some ⟨b, 0, none⟩) zs.length cap, .int .i64 (k0 : Int)] w (MarkedS w base (some ⟨b, 0, none⟩) cap k0 zs.length) := by
  have HO := Lib.hid hO
  obtain ⟨n, HN⟩ : ∃ n, Hid (zs.length = n) := ⟨_, rfl⟩
  rw [HN.out] at hm ⊢
  clear hO
  go_enter Try.func65, Try.ntmps65
  go_wp2
  go_loopw [1, 5] (fun x i w' => ∃ k : Nat, k ≤ n ∧ x = .int .i64 ((k0 + k : Nat) : Int) ∧ i = .int .i64 k ∧ Hid (OwnStrs w' base (some ⟨b, 0, none⟩) cap (smarks k0 k ++ zs.drop k)) ∧ Hid (w.grownBy w' (some b))) (fun _ i _ => n - (intOf i).toNat)
  case atStart => exact ⟨0, by omega, rfl, rfl, HO, World.grownBy.refl _ _⟩
  case round =>
    obtain ⟨k, hk, rfl, rfl, HO1, HG⟩ := hrel
    by_cases hlt : k < n
    · have hki : (k : Int) < (n : Int) := by omega
      have HK9 : Hid (1 ≤ k0 + k ∧ k0 + k ≤ 4000000) := ⟨by omega, by omega⟩
      have hcast : ((k0 + k : Nat) : Int) = (k0 : Int) + (k : Int) := by omega
      have C : Hid (Calls Try.prog 68 #[.int .i64 ((k0 : Int) + (k : Int))] wr fun e w' => e = .returned (.string (markT (k0 + k))) ∧ Below wr.heap.size wr w') := by
        have h := markText_any (k0 + k) wr HK9.out.1 HK9.out.2
        rw [hcast] at h
        exact h
      obtain ⟨T, HT⟩ : ∃ T, Hid (markT (k0 + k) = T) := ⟨_, rfl⟩
      rw [HT.out] at C
      clear hcast
      go_wp2_with fail
      refine C.out.mono ?_
      rintro e w2 ⟨rfl, hb2⟩
      have ho2 := HO1.out.below hb2
      have hlen : (smarks k0 k ++ zs.drop k).length = n := by rw [List.length_append, smarks_length, List.length_drop, HN.out]; omega
      obtain ⟨hcx, hfx⟩ := owns_cell ho2 k (by omega)
      have hs := owns_stored ho2 k (markT (k0 + k))
      rw [smarks_step zs k0 k (by rw [HN.out]; exact hlt), HT.out] at hs
      have HS := Lib.hid hs.1
      have HGS : Hid (w.grownBy (w2.setCell ⟨b, k, none⟩ (.string T)) (some b)) := World.grownBy.trans (World.grownBy.trans HG.out (grown_of_below hb2 _)) hs.2
      have hki : (k : Int) < (n : Int) := by omega
      clear hlen hs ho2 hb2
      go_wp2
      go_roundw
      case rel => exact ⟨k + 1, by omega, by go_num, by go_num, HS, HGS⟩
      case measure => simp [intOf]; omega
    · have hkn : k = n := by omega
      subst hkn
      have ho := HO1.out
      rw [List.drop_eq_nil_of_le (by rw [HN.out]; omega), List.append_nil] at ho
      have HO' := Lib.hid ho
      clear ho
      go_wp2
      go_ret
      exact ⟨ret_int (by simp), HO'.out, (fun b' e => by injection e with e; injection e with e _ _; subst e; exact HG.out), (fun e => by cases e)⟩

set_option maxHeartbeats 800000 in
theorem marks_any (base : Nat) (A : Option Addr) (cap k0 : Nat) (zs : List ByteArray) (w : World) (hO : OwnStrs w base A cap zs) (hm : zs.length ≤ 1048576) (hk1 : 1 ≤ k0) (hk0 : k0 ≤ 2000000) :
    Calls Try.prog 65 #[.slice A zs.length cap, .int .i64 (k0 : Int)] w (MarkedS w base A cap k0 zs.length) := by
  rcases A with _ | ad
  · have h0 : zs = [] := by
      cases zs with
      | nil => rfl
      | cons z zs => obtain ⟨b, o, e, _⟩ := hO.ints (by simp); cases e
    subst h0
    have HO := Lib.hid hO
    clear hO
    go_enter Try.func65, Try.ntmps65
    go_wp2
    go_loop [1, 5] (fun x i => x = .int .i64 (k0 : Int) ∧ i = .int .i64 0) (fun _ _ => 0)
    case atStart => exact ⟨rfl, rfl⟩
    case round =>
      obtain ⟨rfl, rfl⟩ := hrel
      go_wp2
      go_ret
      exact ⟨rfl, HO.out, (fun b e => by cases e), fun _ => rfl⟩
  · have : ∃ b, ad = ⟨b, 0, none⟩ := by
      rcases hO.2 with ⟨hv, _⟩ | ⟨g, c, cur, hv, _⟩
      · injection hv with hA _ _; cases hA
      · injection hv with hA _ _; injection hA with hA; exact ⟨g, hA⟩
    obtain ⟨b, rfl⟩ := this
    exact marks_some base b cap k0 zs w hO hm hk1 hk0

set_option maxHeartbeats 2000000 in
theorem helds_any (A : Option Addr) (cap k0 n : Nat) (w : World) (hI : StrsAt w w.heap.size A (smarks k0 n)) (hm : n ≤ 1048576) (hk1 : 1 ≤ k0) (hk0 : k0 ≤ 2000000) :
    Calls Try.prog 70 #[.slice A n cap, .int .i64 (k0 : Int)] w fun e w' => e = .returned (.int .i64 ((k0 + n : Nat) : Int)) ∧ Below w.heap.size w w' := by
  have HI := Lib.hid hI
  clear hI
  go_enter Try.func70, Try.ntmps70
  go_wp2
  go_loopw [1, 5] (fun x i w' => ∃ k : Nat, k ≤ n ∧ x = .int .i64 ((k0 + k : Nat) : Int) ∧ i = .int .i64 k ∧ Hid (Below w.heap.size w w')) (fun _ i _ => n - (intOf i).toNat)
  case atStart => exact ⟨0, by omega, rfl, rfl, Below.refl _ _⟩
  case round =>
    obtain ⟨k, hk, rfl, rfl, HB⟩ := hrel
    by_cases hlt : k < n
    · obtain ⟨b, o, rfl, hb, hc⟩ := (HI.out.belowS HB.out) (by rw [smarks_length]; omega)
      have hck := hc k (by rw [smarks_length]; exact hlt)
      rw [smarks_sth k0 n k hlt] at hck
      have hki : (k : Int) < (n : Int) := by omega
      have hk00 : (0 : Int) ≤ (k : Int) := by omega
      have HK9 : Hid (1 ≤ k0 + k ∧ k0 + k ≤ 4000000) := ⟨by omega, by omega⟩
      have hcast : ((k0 + k : Nat) : Int) = (k0 : Int) + (k : Int) := by omega
      have C : Hid (∀ U : World, Calls Try.prog 68 #[.int .i64 ((k0 : Int) + (k : Int))] U fun e w' => e = .returned (.string (markT (k0 + k))) ∧ Below U.heap.size U w') := fun U => by
        have h := markText_any (k0 + k) U HK9.out.1 HK9.out.2
        rw [hcast] at h
        exact h
      obtain ⟨T, HT⟩ : ∃ T, Hid (markT (k0 + k) = T) := ⟨_, rfl⟩
      rw [HT.out] at C hck
      have hvb : (T.toList == T.toList) = true := by simp
      clear hcast hc
      go_wp2_with fail
      go_region_held3 (fun w' => w'.cell? ⟨b, o + k, none⟩ = some (.string T)) (go_keep)
        (first
          | (go_at_call 68; (with_reducible refine (C.out _).mono ?_); rintro e w2 ⟨rfl, hb2⟩; have HB2 : Hid (Below wr.heap.size wr w2) := below_drew_l hb2; have hck2 : w2.cell? ⟨b, o + k, none⟩ = some (.string T) := (HB2.out.cell (p := ⟨b, o + k, none⟩) hb).trans hck; clear hb2))
      have HBS : Hid (Below w.heap.size w w2) := HB.out.trans (HB2.out.mono HB.out.size)
      go_wp2
      go_roundw
      case rel => exact ⟨k + 1, by omega, by go_num, by go_num, HBS⟩
      case measure => simp [intOf]; omega
    · have hkn : k = n := by omega
      subst hkn
      go_wp2
      go_ret
      exact ⟨ret_int (by simp), HB.out⟩

set_option maxHeartbeats 2000000 in
theorem heldbk_any (A : Option Addr) (cap k0 n : Nat) (w : World) (hI : BoolsAt w w.heap.size A (bmarks k0 n)) (hm : n ≤ 1048576) (hk0 : k0 ≤ 2000000) :
    Calls Try.prog 71 #[.slice A n cap, .int .i64 (k0 : Int)] w fun e w' => e = .returned (.int .i64 ((k0 + n : Nat) : Int)) ∧ ∃ q, w' = w.drewN q := by
  have HI := Lib.hid hI
  clear hI
  go_enter Try.func71, Try.ntmps71
  go_wp2
  go_loopw [1, 5] (fun x i w' => ∃ k : Nat, k ≤ n ∧ x = .int .i64 ((k0 + k : Nat) : Int) ∧ i = .int .i64 k ∧ ∃ q, w' = w.drewN q) (fun _ i _ => n - (intOf i).toNat)
  case atStart => exact ⟨0, by omega, rfl, rfl, 0, rfl⟩
  case round =>
    obtain ⟨k, hk, rfl, rfl, q, rfl⟩ := hrel
    by_cases hlt : k < n
    · obtain ⟨b, o, rfl, hb, hc⟩ := HI.out (by rw [bmarks_length]; omega)
      have hck := hc k (by rw [bmarks_length]; exact hlt)
      rw [bmarks_bth k0 n k hlt] at hck
      have hki : (k : Int) < (n : Int) := by omega
      have hcast : ((k0 + k : Nat) : Int) = (k0 : Int) + (k : Int) := by omega
      rw [hcast] at hck
      unfold third at hck
      clear hc hcast
      go_wp2
      go_roundw
      case rel => exact ⟨k + 1, by omega, by go_num, by go_num, _, rfl⟩
      case measure => simp [intOf]; omega
    · have hkn : k = n := by omega
      subst hkn
      go_wp2
      go_ret
      exact ⟨ret_int (by simp), _, rfl⟩

/-- A slice of bools that came in: nil, or a row of cap cells with the bools zs. -/
def IsRowS (w : World) (a : Option Addr) (len cap : Nat) (zs : List ByteArray) : Prop :=
  (a = none ∧ len = 0 ∧ cap = 0 ∧ zs = []) ∨
  ∃ x, a = some x ∧ len ≤ cap ∧ cap ≤ maxLen ∧ zs.length = cap ∧ (∀ i, i < zs.length → w.cell? (x.add i) = some (.string (zs.getD i ByteArray.empty)))

theorem rowS_cell {w : World} {x : Addr} {c : Nat} {B : Nat → ByteArray} (hc : ∀ i, i < c → w.cell? (x.add i) = some (.string (B i))) (i : Nat) (hi : i < ((List.range c).map B).length) : w.cell? (x.add i) = some (.string (((List.range c).map B).getD i ByteArray.empty)) := by
  have h : i < c := by simpa using hi
  rw [hc i h, List.getD_eq_getElem?_getD, List.getElem?_map, List.getElem?_range h]
  rfl

theorem strs_of_row {w : World} {a : Option Addr} {len cap : Nat} {zs : List ByteArray} (h : IsRowS w a len cap zs) : StrsAt w w.heap.size a (zs.take len) ∧ (zs.take len).length = len ∧ len ≤ maxLen := by
  rcases h with ⟨rfl, rfl, rfl, rfl⟩ | ⟨x, rfl, hl, hm, hz, hc⟩
  · exact ⟨StrsAt.nil, rfl, by simp [maxLen]⟩
  · have hlen : (zs.take len).length = len := by rw [List.length_take]; omega
    refine ⟨fun hn => ?_, hlen, Nat.le_trans hl hm⟩
    rw [hlen] at hn
    obtain ⟨b, o, sp⟩ := x
    have hs := World.cell?_spot (hc 0 (by omega))
    have hs0 : sp = none := by simpa [Addr.add] using hs
    subst hs0
    have hcell : ∀ k, k < zs.length → w.cell? ⟨b, o + k, none⟩ = some (.string (zs.getD k ByteArray.empty)) := fun k hk => by
      have := hc k hk
      rw [Addr.add_lit] at this
      exact this
    have h0 := hcell 0 (by omega)
    refine ⟨b, o, rfl, World.block_lt_of_cell? w _ h0, fun k hk => ?_⟩
    rw [hlen] at hk
    rw [hcell k (by omega)]
    unfold sth
    rw [List.getD_eq_getElem?_getD, List.getD_eq_getElem?_getD, List.getElem?_take_of_lt hk]

end Go.Proofs.Ytkmebilhbjcfpaa

namespace Go.Proofs.Ytkmebilhbjcfpaa
open Go.RowKit
set_option linter.unusedVariables false

set_option maxHeartbeats 2000000 in
set_option maxRecDepth 100000 in
theorem sameFeed_same (p l d s : Int) (A1 : Option Addr) (c1 : Nat) (A2 : Option Addr) (c2 : Nat) (A3 : Option Addr) (c3 : Nat) (A4 : Option Addr) (c4 : Nat) (bs : List ByteArray) (hs : List Bool) (w : World) (hF : FeedAt w w.heap.size A1 A2 bs hs) (hG : FeedAt w w.heap.size A3 A4 bs hs) :
    Calls Try.prog 23 #[feedV p l d s A1 bs.length c1 A2 hs.length c2, feedV p l d s A3 bs.length c3 A4 hs.length c4] w fun e w' => e = .returned (.bool true) ∧ Below w.heap.size w w' := by
  have HF := Lib.hid hF
  have HG := Lib.hid hG
  obtain ⟨W, HW⟩ : ∃ W, Hid ((w.alloc (.cells (feedC p l d s A1 bs.length c1 A2 hs.length c2) 39)).alloc (.cells (feedC p l d s A3 bs.length c3 A4 hs.length c4) 39) = W) := ⟨_, rfl⟩
  have HB : Hid (Below w.heap.size w W) := by rw [← HW.out]; exact ((Below.refl _ w).alloc (Nat.le_refl _) _).alloc (by simp) _
  have C1 : Hid (∀ q, Calls Try.prog 45 #[.slice A1 bs.length c1, .slice A3 bs.length c3] (W.drewN q) fun e w' => e = .returned (.bool true) ∧ ∃ q', w' = (W.drewN q).drewN q') := fun q => by
    have h := sames_any A1 c1 bs A3 c3 bs (W.drewN q) ((HF.out.belowS HB.out).strs.drewN q) ((HG.out.belowS HB.out).strs.drewN q) HF.out.lb HF.out.lb
    rw [decide_eq_true rfl] at h
    exact h
  have C2 : Hid (∀ q, Calls Try.prog 46 #[.slice A2 hs.length c2, .slice A4 hs.length c4] (W.drewN q) fun e w' => e = .returned (.bool true) ∧ ∃ q', w' = (W.drewN q).drewN q') := fun q => by
    have h := sameb_any A2 c2 hs A4 c4 hs (W.drewN q) ((HF.out.belowS HB.out).bits.drewN q) ((HG.out.belowS HB.out).bits.drewN q) HF.out.lh HF.out.lh
    rw [decide_eq_true rfl] at h
    exact h
  have K1 : Hid (∀ q, Blk (W.drewN q) w.heap.size 39 (feedC p l d s A1 bs.length c1 A2 hs.length c2)) := fun q => by
    show W.heap[w.heap.size]? = _
    rw [← HW.out]
    exact (Blk.new w 39 _).alloc _
  have K2 : Hid (∀ q, Blk (W.drewN q) (w.heap.size + 1) 39 (feedC p l d s A3 bs.length c3 A4 hs.length c4)) := fun q => by
    show W.heap[w.heap.size + 1]? = _
    rw [← HW.out]
    have h := Blk.new (w.alloc (.cells (feedC p l d s A1 bs.length c1 A2 hs.length c2) 39)) 39 (feedC p l d s A3 bs.length c3 A4 hs.length c4)
    rw [World.size_alloc] at h
    exact h
  obtain ⟨m, HM⟩ : ∃ m, Hid (bs.length = m) := ⟨_, rfl⟩
  obtain ⟨n, HN⟩ : ∃ n, Hid (hs.length = n) := ⟨_, rfl⟩
  rw [HM.out] at C1 K1 K2 HW ⊢
  rw [HN.out] at C2 K1 K2 HW ⊢
  clear hF hG
  go_enter Try.func23, Try.ntmps23
  go_wp2_with fail
  rw [HW.out]
  refine (C1.out 0).mono ?_
  rintro e w1 ⟨rfl, q1, rfl⟩
  obtain ⟨a0, a1, a2, a3, a4, a5⟩ := feed_cells (K1.out q1)
  obtain ⟨b0, b1, b2, b3, b4, b5⟩ := feed_cells (K2.out q1)
  rw [show (W.drewN 0).drewN q1 = W.drewN q1 from by rw [World.drewN_drewN, Nat.zero_add]]
  go_wp2_with fail
  refine (C2.out q1).mono ?_
  rintro e w2 ⟨rfl, q2, rfl⟩
  go_wp2
  go_ret
  exact ⟨rfl, below_drewN HB.out _⟩

set_option maxHeartbeats 2000000 in
set_option maxRecDepth 100000 in
theorem eqFeed_same (p l d s : Int) (A1 : Option Addr) (c1 : Nat) (A2 : Option Addr) (c2 : Nat) (A3 : Option Addr) (c3 : Nat) (A4 : Option Addr) (c4 : Nat) (bs : List ByteArray) (hs : List Bool) (w : World) (hF : FeedAt w w.heap.size A1 A2 bs hs) (hG : FeedAt w w.heap.size A3 A4 bs hs) :
    Calls Try.prog 61 #[feedV p l d s A1 bs.length c1 A2 hs.length c2, feedV p l d s A3 bs.length c3 A4 hs.length c4] w fun e w' => e = .returned (.bool true) ∧ Below w.heap.size w w' := by
  have HF := Lib.hid hF
  have HG := Lib.hid hG
  obtain ⟨W, HW⟩ : ∃ W, Hid ((w.alloc (.cells (feedC p l d s A1 bs.length c1 A2 hs.length c2) 39)).alloc (.cells (feedC p l d s A3 bs.length c3 A4 hs.length c4) 39) = W) := ⟨_, rfl⟩
  have HB : Hid (Below w.heap.size w W) := by rw [← HW.out]; exact ((Below.refl _ w).alloc (Nat.le_refl _) _).alloc (by simp) _
  have hz : w.heap.size + 1 < W.heap.size := by rw [← HW.out]; simp
  have C1 : Hid (∀ U, Below w.heap.size w U → Calls Try.prog 91 #[.slice A1 bs.length c1, .slice A3 bs.length c3] U fun e w' => e = .returned (.bool true) ∧ ∃ q', w' = U.drewN q') := fun U hU => by
    have h := eqs_any A1 c1 bs A3 c3 bs U (HF.out.belowS hU).strs (HG.out.belowS hU).strs HF.out.lb HF.out.lb
    rw [decide_eq_true rfl] at h
    exact h
  have C2 : Hid (∀ U, Below w.heap.size w U → Calls Try.prog 92 #[.slice A2 hs.length c2, .slice A4 hs.length c4] U fun e w' => e = .returned (.bool true) ∧ ∃ q', w' = U.drewN q') := fun U hU => by
    have h := eqb_any A2 c2 hs A4 c4 hs U (HF.out.belowS hU).bits (HG.out.belowS hU).bits HF.out.lh HF.out.lh
    rw [decide_eq_true rfl] at h
    exact h
  have K1 : Hid (Blk W w.heap.size 39 (feedC p l d s A1 bs.length c1 A2 hs.length c2)) := by
    rw [← HW.out]
    exact (Blk.new w 39 _).alloc _
  have K2 : Hid (Blk W (w.heap.size + 1) 39 (feedC p l d s A3 bs.length c3 A4 hs.length c4)) := by
    rw [← HW.out]
    have h := Blk.new (w.alloc (.cells (feedC p l d s A1 bs.length c1 A2 hs.length c2) 39)) 39 (feedC p l d s A3 bs.length c3 A4 hs.length c4)
    rw [World.size_alloc] at h
    exact h
  obtain ⟨m, HM⟩ : ∃ m, Hid (bs.length = m) := ⟨_, rfl⟩
  obtain ⟨n, HN⟩ : ∃ n, Hid (hs.length = n) := ⟨_, rfl⟩
  rw [HM.out] at C1 K1 K2 HW ⊢
  rw [HN.out] at C2 K1 K2 HW ⊢
  clear hF hG
  go_enter Try.func61, Try.ntmps61
  go_wp2_with fail
  rw [HW.out]
  refine (eqHead_same l d s _).mono ?_
  rintro e w1 ⟨rfl, hb1⟩
  have HB1 : Hid (Below w.heap.size w w1) := HB.out.trans (hb1.mono HB.out.size)
  have K11 := Lib.hid (K1.out.below hb1 (by omega))
  have K21 := Lib.hid (K2.out.below hb1 (by omega))
  obtain ⟨a0, a1, a2, a3, a4, a5⟩ := feed_cells K11.out
  obtain ⟨b0, b1, b2, b3, b4, b5⟩ := feed_cells K21.out
  clear hb1
  go_wp2_with fail
  refine (C1.out _ HB1.out).mono ?_
  rintro e w2 ⟨rfl, q1, rfl⟩
  go_wp2_with fail
  refine (C2.out _ (below_drewN HB1.out q1)).mono ?_
  rintro e w3 ⟨rfl, q2, rfl⟩
  go_wp2
  go_ret
  exact ⟨rfl, below_drewN HB1.out _⟩

end Go.Proofs.Ytkmebilhbjcfpaa
