/- Contracts of the exact laws' helpers over slices of texts: toStringS copies, markStringS writes numbers as texts through a slice of the call's own, heldStringS looks whether it still holds that. Conditions: the slices lie in memory and have at most 2^20 elements. Contracts of the laws' functions sameFeed and eqFeed at two feeds that read alike: both answer true, and change nothing that was there.  -/
import Derived.Test.YtkmebilhbjcfpaaGreatBaseD
import Derived.Test.YtkmebilhbjcfpaaGreatBaseA
import Derived.Deep.RegionHeld3
import Derived.Test.YtkmebilhbjcfpaaGreatBaseH
import Derived.Deep.OwnRows
import Derived.Test.YtkmebilhbjcfpaaGreatBaseE
namespace Go.Proofs.YtkmebilhbjcfpaaGreat
open Go.RowKit
set_option linter.unusedVariables false

def noS (k : Nat) : List ByteArray := List.replicate k ByteArray.empty
theorem noS_length (k : Nat) : (noS k).length = k := List.length_replicate
theorem madeCells_sals (n : Nat) : madeCells #[Value.string ByteArray.empty] n = (sals (noS n)).toArray := by
  apply Array.ext'
  rw [toList_madeCells_one]
  simp [sals, noS]
theorem owns_made (w : World) (n : Nat) (hn : n ≤ 1048576) : OwnStrs (w.alloc (.cells (sals (noS n)).toArray 9)) w.heap.size (some ⟨w.heap.size, 0, none⟩) n (noS n) := by
  have := World.ownsRow_lit (e := 9) (size := 1) w (sals (noS n)).toArray n (Nat.le_refl _) (by unfold maxLen; omega) (by rw [List.size_toArray, sals_length, noS_length]; omega)
  unfold OwnStrs
  rw [noS_length]
  exact this
theorem owns_stored {w : World} {base b cap : Nat} {zs : List ByteArray} (h : OwnStrs w base (some ⟨b, 0, none⟩) cap zs) (j : Nat) (x : ByteArray) : OwnStrs (w.setCell ⟨b, j, none⟩ (.string x)) base (some ⟨b, 0, none⟩) cap (zs.set j x) ∧ w.grownBy (w.setCell ⟨b, j, none⟩ (.string x)) (some b) := by
  have := World.ownsRow.stored h j (.string x)
  refine ⟨?_, this.2⟩
  unfold OwnStrs
  rw [List.length_set]
  have e : sals (zs.set j x) = (sals zs).set j (vs x) := by unfold sals; rw [List.map_set]
  rw [e]
  exact this.1
theorem owns_cell {w : World} {base b cap : Nat} {zs : List ByteArray} (h : OwnStrs w base (some ⟨b, 0, none⟩) cap zs) (j : Nat) (hj : j < zs.length) : w.cell? ⟨b, j, none⟩ = some (.string (sth zs j)) ∧ w.frozen? ⟨b, j, none⟩ = false := by
  have h1 := (h.ints.lt (by omega)).2 j hj
  rw [Nat.zero_add] at h1
  exact ⟨h1, World.ownsRow.frozenAt h j⟩
theorem copys_step (zs : List ByteArray) (k n : Nat) (hn : zs.length = n) (hk : k < n) : (zs.take k ++ noS (n - k)).set k (sth zs k) = zs.take (k + 1) ++ noS (n - (k + 1)) := by
  have hl : (zs.take k).length = k := by rw [List.length_take]; omega
  have e : n - k = (n - (k + 1)) + 1 := by omega
  have hz : noS (n - k) = ByteArray.empty :: noS (n - (k + 1)) := by rw [e]; rfl
  have ht : zs.take (k + 1) = zs.take k ++ [sth zs k] := by
    rw [List.take_succ_eq_append_getElem (by omega), sth, List.getD_eq_getElem?_getD, List.getElem?_eq_getElem (by omega)]; rfl
  rw [hz, ht, List.set_append_right _ _ (by omega), hl, Nat.sub_self, List.append_assoc]
  rfl
theorem sth_noS (zs : List ByteArray) (k n : Nat) (hn : zs.length = n) (hk : k < n) : (zs.take k ++ noS (n - k)).length = n := by rw [List.length_append, List.length_take, noS_length]; omega

def CopiedS (w : World) (zs : List ByteArray) (e : Ending) (w' : World) : Prop :=
  e = .returned (.slice (some ⟨w.heap.size, 0, none⟩) zs.length zs.length) ∧ OwnStrs w' w.heap.size (some ⟨w.heap.size, 0, none⟩) zs.length zs ∧ Below w.heap.size w w'

set_option maxHeartbeats 2000000 in
theorem toStrs_any (A : Option Addr) (cap : Nat) (zs : List ByteArray) (w : World) (hI : StrsAt w w.heap.size A zs) (hm : zs.length ≤ 1048576) :
    Calls Tryz.prog 113 #[.slice A zs.length cap] w (CopiedS w zs) := by
  have HI := Lib.hid hI
  obtain ⟨n, HN⟩ : ∃ n, Hid (zs.length = n) := ⟨_, rfl⟩
  rw [HN.out] at hm ⊢
  clear hI
  have hmk := run_make_row' (P := Tryz.prog) 53 9 (.string ByteArray.empty) 16 Tryz.underlying53 string_info rfl .i64 .i64 n (by omega) (by omega)
  simp only [madeCells_sals] at hmk
  go_enter Tryz.func113, Tryz.ntmps113
  go_wp2
  clear hmk
  go_loopw [4] (fun i w' => ∃ k : Nat, k ≤ n ∧ i = .int .i64 k ∧ Hid (OwnStrs w' w.heap.size (some ⟨w.heap.size, 0, none⟩) n (zs.take k ++ noS (n - k))) ∧ Hid (Below w.heap.size w w')) (fun i _ => n - (intOf i).toNat)
  case atStart => exact ⟨0, by omega, rfl, (by show OwnStrs _ _ _ _ _; have := owns_made w n hm; simpa using this), (Below.refl _ _).alloc (Nat.le_refl _) _⟩
  case round =>
    obtain ⟨k, hk, rfl, HO, HB⟩ := hrel
    by_cases hlt : k < n
    · have hkz : k < zs.length := by rw [HN.out]; exact hlt
      obtain ⟨b, o, rfl, hb, hc⟩ := (HI.out.below HB.out (Nat.le_refl _)) (by omega)
      have hck := hc k hkz
      have hlen := sth_noS zs k n HN.out hlt
      obtain ⟨hcx, hfx⟩ := owns_cell HO.out k (by omega)
      have hki : (k : Int) < (n : Int) := by omega
      have hs := owns_stored HO.out k (sth zs k)
      rw [copys_step zs k n HN.out hlt] at hs
      have HS := Lib.hid hs.1
      have HBS : Hid (Below w.heap.size w (wr.setCell ⟨w.heap.size, k, none⟩ (.string (sth zs k)))) := HB.out.setCell (p := ⟨w.heap.size, k, none⟩) (Nat.le_refl _) _
      have hne : b ≠ w.heap.size := by omega
      clear hc hkz hlen hs
      go_wp2
      go_roundw
      case rel => exact ⟨k + 1, by omega, by go_num, HS, HBS⟩
      case measure => simp [intOf]; omega
    · have hkn : k = n := by omega
      subst hkn
      have ho := HO.out
      rw [Nat.sub_self, List.take_of_length_le (by rw [HN.out]; omega)] at ho
      have HO' : Hid (OwnStrs wr w.heap.size (some ⟨w.heap.size, 0, none⟩) k zs) := by show OwnStrs _ _ _ _ _; simpa [noS] using ho
      clear ho
      go_wp2
      go_ret
      refine ⟨?_, ?_, HB.out⟩
      · rw [HN.out]; rfl
      · rw [HN.out]; exact HO'.out

/-- The digits of k in front of out. -/
def decT : Nat → Nat → ByteArray → ByteArray
  | 0, _, out => out
  | f + 1, k, out => if k = 0 then out else decT f (k / 10) (ByteArray.empty.push (48 + UInt8.ofNat (k % 10)) ++ out)
theorem decT_zero (f : Nat) (out : ByteArray) : decT f 0 out = out := by cases f <;> simp [decT]
theorem decT_succ (f k : Nat) (out : ByteArray) (hk : 0 < k) : decT (f + 1) k out = decT f (k / 10) (ByteArray.empty.push (48 + UInt8.ofNat (k % 10)) ++ out) := by
  simp only [decT, if_neg (show ¬ k = 0 by omega)]
def letterM : ByteArray := ⟨#[109]⟩
def markT (k : Nat) : ByteArray := letterM ++ decT k k ByteArray.empty
theorem pow_div (j m : Nat) (h : j < 10 ^ (m + 1)) : j / 10 < 10 ^ m := Nat.div_lt_of_lt_mul (by rw [Nat.pow_succ, Nat.mul_comm] at h; exact h)

/-- Where the loop of markText stands. -/
def Deci (w : World) (R : ByteArray) (x o : Value) (w' : World) : Prop :=
  ∃ (j f m : Nat) (out : ByteArray), x = .int .i64 (j : Int) ∧ o = .string out ∧ j ≤ f ∧ out.size + m = 10 ∧ j < 10 ^ m ∧ j ≤ 100000000 ∧ Hid (decT f j out = R) ∧ Hid (Below w.heap.size w w')

set_option maxHeartbeats 2000000 in
theorem markText_any (k : Nat) (w : World) (h0 : 1 ≤ k) (h1 : k ≤ 4000000) :
    Calls Tryz.prog 100 #[.int .i64 (k : Int)] w fun e w' => e = .returned (.string (markT k)) ∧ Below w.heap.size w w' := by
  have hk : ¬ (k : Int) ≤ 0 := by omega
  have HM : Hid (markT k = letterM ++ decT k k ByteArray.empty) := rfl
  go_enter Tryz.func100, Tryz.ntmps100
  go_wp2
  go_loopw [0, 3] (Deci w (decT k k ByteArray.empty)) (fun x _ _ => (intOf x).toNat)
  case atStart => exact ⟨k, k, 10, ByteArray.empty, rfl, rfl, Nat.le_refl _, rfl, by omega, by omega, rfl, Below.refl _ _⟩
  case round =>
    obtain ⟨j, f, m, out, rfl, rfl, hjf, hsz, hp, hj8, HD, HB⟩ := hrel
    have hss : out.size ≤ 10 := by omega
    have hwz := HB.out.size
    by_cases hj : 0 < j
    · obtain ⟨f', rfl⟩ : ∃ f', f = f' + 1 := ⟨f - 1, by omega⟩
      obtain ⟨m', rfl⟩ : ∃ m', m = m' + 1 := ⟨m - 1, by
        cases m with
        | zero => simp at hp; omega
        | succ m => omega⟩
      have HD' : Hid (decT f' (j / 10) (ByteArray.empty.push (48 + UInt8.ofNat (j % 10)) ++ out) = decT k k ByteArray.empty) := by show _ = _; rw [← decT_succ f' j out hj]; exact HD.out
      have HP := Lib.hid (pow_div j m' hp)
      have HBS : Hid (Below w.heap.size w (wr.alloc (.cells #[.int .u8 (48 + ((j % 10 : Nat) : Int))] 5))) := HB.out.alloc hwz _
      have hsz' : (ByteArray.empty.push (48 + UInt8.ofNat (j % 10)) ++ out).size + m' = 10 := by
        rw [ByteArray.size_append]
        show 1 + out.size + m' = 10
        omega
      have HSZ := Lib.hid hsz'
      obtain ⟨y, HY⟩ : ∃ y : Nat, Hid (j % 10 = y) := ⟨_, rfl⟩
      have hy9 : y ≤ 9 := by have := HY.out; omega
      have hrem : (j : Int).tmod 10 = (y : Int) := by rw [← HY.out]; exact tmod_nat j 10
      have hquo : (j : Int).tdiv 10 = ((j / 10 : Nat) : Int) := tdiv_nat j 10
      rw [HY.out] at HD' HBS HSZ
      have hcv := run_one_byte wr (48 + (y : Int))
      have hone : (ByteArray.empty.push (UInt8.ofNat ((48 : Int) + (y : Int)).toNat)).size = 1 := rfl
      have hji : (0 : Int) < (j : Int) := by omega
      clear hp hsz hsz'
      go_wp2_with fail
      exact ⟨⟨j / 10, f', m', _, by go_num, rfl, by omega, HSZ.out, HP.out, by omega, HD', HBS⟩, by simp [intOf]; omega⟩
    · have hj0 : j = 0 := by omega
      subst hj0
      have HD0 : Hid (out = decT k k ByteArray.empty) := by show _ = _; rw [← HD.out, decT_zero]
      go_wp2
      go_ret
      exact ⟨by rw [HM.out, ← HD0.out]; rfl, HB.out⟩

def smarks : Nat → Nat → List ByteArray
  | _, 0 => []
  | j, n + 1 => markT j :: smarks (j + 1) n
theorem smarks_length : ∀ j n, (smarks j n).length = n := by
  intro j n
  induction n generalizing j with
  | zero => rfl
  | succ n ih => show (smarks (j + 1) n).length + 1 = n + 1; rw [ih]
theorem smarks_sth : ∀ j n k, k < n → sth (smarks j n) k = markT (j + k) := by
  intro j n
  induction n generalizing j with
  | zero => intro k h; omega
  | succ n ih =>
    intro k h
    cases k with
    | zero => rfl
    | succ k =>
      have := ih (j + 1) k (by omega)
      show sth (smarks (j + 1) n) k = _
      rw [this, Nat.add_assoc, Nat.add_comm 1 k]
theorem smarks_snoc : ∀ j k, smarks j (k + 1) = smarks j k ++ [markT (j + k)] := by
  intro j k
  induction k generalizing j with
  | zero => rfl
  | succ k ih =>
    show markT j :: smarks (j + 1) (k + 1) = markT j :: smarks (j + 1) k ++ [_]
    rw [ih (j + 1), Nat.add_assoc, Nat.add_comm 1 k]
    rfl
theorem smarks_step (zs : List ByteArray) (j k : Nat) (hk : k < zs.length) : (smarks j k ++ zs.drop k).set k (markT (j + k)) = smarks j (k + 1) ++ zs.drop (k + 1) := by
  have hd := List.drop_eq_getElem_cons hk
  rw [smarks_snoc, List.set_append_right _ _ (by rw [smarks_length]; omega), smarks_length, Nat.sub_self, hd, List.append_assoc]
  rfl

def MarkedS (w : World) (base : Nat) (A : Option Addr) (cap : Nat) (k0 n : Nat) (e : Ending) (w' : World) : Prop :=
  e = .returned (.int .i64 ((k0 + n : Nat) : Int)) ∧ OwnStrs w' base A cap (smarks k0 n) ∧ (∀ b, A = some ⟨b, 0, none⟩ → w.grownBy w' (some b)) ∧ (A = none → w = w')

set_option maxHeartbeats 2000000 in
theorem marks_some (base b cap k0 : Nat) (zs : List ByteArray) (w : World) (hO : OwnStrs w base (some ⟨b, 0, none⟩) cap zs) (hm : zs.length ≤ 1048576) (hk1 : 1 ≤ k0) (hk0 : k0 ≤ 2000000) :
    Calls Tryz.prog 97 #[.slice (some ⟨b, 0, none⟩) zs.length cap, .int .i64 (k0 : Int)] w (MarkedS w base (some ⟨b, 0, none⟩) cap k0 zs.length) := by
  have HO := Lib.hid hO
  obtain ⟨n, HN⟩ : ∃ n, Hid (zs.length = n) := ⟨_, rfl⟩
  rw [HN.out] at hm ⊢
  clear hO
  go_enter Tryz.func97, Tryz.ntmps97
  go_wp2
  go_loopw [1, 5] (fun x i w' => ∃ k : Nat, k ≤ n ∧ x = .int .i64 ((k0 + k : Nat) : Int) ∧ i = .int .i64 k ∧ Hid (OwnStrs w' base (some ⟨b, 0, none⟩) cap (smarks k0 k ++ zs.drop k)) ∧ Hid (w.grownBy w' (some b))) (fun _ i _ => n - (intOf i).toNat)
  case atStart => exact ⟨0, by omega, rfl, rfl, HO, World.grownBy.refl _ _⟩
  case round =>
    obtain ⟨k, hk, rfl, rfl, HO1, HG⟩ := hrel
    by_cases hlt : k < n
    · have hki : (k : Int) < (n : Int) := by omega
      have HK9 : Hid (1 ≤ k0 + k ∧ k0 + k ≤ 4000000) := ⟨by omega, by omega⟩
      have hcast : ((k0 + k : Nat) : Int) = (k0 : Int) + (k : Int) := by omega
      have C : Hid (Calls Tryz.prog 100 #[.int .i64 ((k0 : Int) + (k : Int))] wr fun e w' => e = .returned (.string (markT (k0 + k))) ∧ Below wr.heap.size wr w') := by
        have h := markText_any (k0 + k) wr HK9.out.1 HK9.out.2
        rw [hcast] at h
        exact h
      obtain ⟨T, HT⟩ : ∃ T, Hid (markT (k0 + k) = T) := ⟨_, rfl⟩
      rw [HT.out] at C
      clear hcast
      go_wp2_with fail
      refine C.out.mono ?_
      rintro e w2 ⟨rfl, hb2⟩
      have ho2 := HO1.out.below hb2
      have hlen : (smarks k0 k ++ zs.drop k).length = n := by rw [List.length_append, smarks_length, List.length_drop, HN.out]; omega
      obtain ⟨hcx, hfx⟩ := owns_cell ho2 k (by omega)
      have hs := owns_stored ho2 k (markT (k0 + k))
      rw [smarks_step zs k0 k (by rw [HN.out]; exact hlt), HT.out] at hs
      have HS := Lib.hid hs.1
      have HGS : Hid (w.grownBy (w2.setCell ⟨b, k, none⟩ (.string T)) (some b)) := World.grownBy.trans (World.grownBy.trans HG.out (grown_of_below hb2 _)) hs.2
      have hki : (k : Int) < (n : Int) := by omega
      clear hlen hs ho2 hb2
      go_wp2
      go_roundw
      case rel => exact ⟨k + 1, by omega, by go_num, by go_num, HS, HGS⟩
      case measure => simp [intOf]; omega
    · have hkn : k = n := by omega
      subst hkn
      have ho := HO1.out
      rw [List.drop_eq_nil_of_le (by rw [HN.out]; omega), List.append_nil] at ho
      have HO' := Lib.hid ho
      clear ho
      go_wp2
      go_ret
      exact ⟨ret_int (by simp), HO'.out, (fun b' e => by injection e with e; injection e with e _ _; subst e; exact HG.out), (fun e => by cases e)⟩

set_option maxHeartbeats 800000 in
theorem marks_any (base : Nat) (A : Option Addr) (cap k0 : Nat) (zs : List ByteArray) (w : World) (hO : OwnStrs w base A cap zs) (hm : zs.length ≤ 1048576) (hk1 : 1 ≤ k0) (hk0 : k0 ≤ 2000000) :
    Calls Tryz.prog 97 #[.slice A zs.length cap, .int .i64 (k0 : Int)] w (MarkedS w base A cap k0 zs.length) := by
  rcases A with _ | ad
  · have h0 : zs = [] := by
      cases zs with
      | nil => rfl
      | cons z zs => obtain ⟨b, o, e, _⟩ := hO.ints (by simp); cases e
    subst h0
    have HO := Lib.hid hO
    clear hO
    go_enter Tryz.func97, Tryz.ntmps97
    go_wp2
    go_loop [1, 5] (fun x i => x = .int .i64 (k0 : Int) ∧ i = .int .i64 0) (fun _ _ => 0)
    case atStart => exact ⟨rfl, rfl⟩
    case round =>
      obtain ⟨rfl, rfl⟩ := hrel
      go_wp2
      go_ret
      exact ⟨rfl, HO.out, (fun b e => by cases e), fun _ => rfl⟩
  · have : ∃ b, ad = ⟨b, 0, none⟩ := by
      rcases hO.2 with ⟨hv, _⟩ | ⟨g, c, cur, hv, _⟩
      · injection hv with hA _ _; cases hA
      · injection hv with hA _ _; injection hA with hA; exact ⟨g, hA⟩
    obtain ⟨b, rfl⟩ := this
    exact marks_some base b cap k0 zs w hO hm hk1 hk0





/-- A slice of bools that came in: nil, or a row of cap cells with the bools zs. -/
def IsRowS (w : World) (a : Option Addr) (len cap : Nat) (zs : List ByteArray) : Prop :=
  (a = none ∧ len = 0 ∧ cap = 0 ∧ zs = []) ∨
  ∃ x, a = some x ∧ len ≤ cap ∧ cap ≤ maxLen ∧ zs.length = cap ∧ (∀ i, i < zs.length → w.cell? (x.add i) = some (.string (zs.getD i ByteArray.empty)))

theorem rowS_cell {w : World} {x : Addr} {c : Nat} {B : Nat → ByteArray} (hc : ∀ i, i < c → w.cell? (x.add i) = some (.string (B i))) (i : Nat) (hi : i < ((List.range c).map B).length) : w.cell? (x.add i) = some (.string (((List.range c).map B).getD i ByteArray.empty)) := by
  have h : i < c := by simpa using hi
  rw [hc i h, List.getD_eq_getElem?_getD, List.getElem?_map, List.getElem?_range h]
  rfl

theorem strs_of_row {w : World} {a : Option Addr} {len cap : Nat} {zs : List ByteArray} (h : IsRowS w a len cap zs) : StrsAt w w.heap.size a (zs.take len) ∧ (zs.take len).length = len ∧ len ≤ maxLen := by
  rcases h with ⟨rfl, rfl, rfl, rfl⟩ | ⟨x, rfl, hl, hm, hz, hc⟩
  · exact ⟨StrsAt.nil, rfl, by simp [maxLen]⟩
  · have hlen : (zs.take len).length = len := by rw [List.length_take]; omega
    refine ⟨fun hn => ?_, hlen, Nat.le_trans hl hm⟩
    rw [hlen] at hn
    obtain ⟨b, o, sp⟩ := x
    have hs := World.cell?_spot (hc 0 (by omega))
    have hs0 : sp = none := by simpa [Addr.add] using hs
    subst hs0
    have hcell : ∀ k, k < zs.length → w.cell? ⟨b, o + k, none⟩ = some (.string (zs.getD k ByteArray.empty)) := fun k hk => by
      have := hc k hk
      rw [Addr.add_lit] at this
      exact this
    have h0 := hcell 0 (by omega)
    refine ⟨b, o, rfl, World.block_lt_of_cell? w _ h0, fun k hk => ?_⟩
    rw [hlen] at hk
    rw [hcell k (by omega)]
    unfold sth
    rw [List.getD_eq_getElem?_getD, List.getD_eq_getElem?_getD, List.getElem?_take_of_lt hk]

end Go.Proofs.YtkmebilhbjcfpaaGreat

namespace Go.Proofs.YtkmebilhbjcfpaaGreat
open Go.RowKit
set_option linter.unusedVariables false



set_option maxHeartbeats 2000000 in
set_option maxRecDepth 100000 in
theorem eqFeed_same (p l d s : Int) (A1 : Option Addr) (c1 : Nat) (A2 : Option Addr) (c2 : Nat) (A3 : Option Addr) (c3 : Nat) (A4 : Option Addr) (c4 : Nat) (bs : List ByteArray) (hs : List Bool) (w : World) (hF : FeedAt w w.heap.size A1 A2 bs hs) (hG : FeedAt w w.heap.size A3 A4 bs hs) :
    Calls Tryz.prog 88 #[feedV p l d s A1 bs.length c1 A2 hs.length c2, feedV p l d s A3 bs.length c3 A4 hs.length c4] w fun e w' => e = .returned (.bool true) ∧ Below w.heap.size w w' := by
  have HF := Lib.hid hF
  have HG := Lib.hid hG
  obtain ⟨W, HW⟩ : ∃ W, Hid ((w.alloc (.cells (feedC p l d s A1 bs.length c1 A2 hs.length c2) 56)).alloc (.cells (feedC p l d s A3 bs.length c3 A4 hs.length c4) 56) = W) := ⟨_, rfl⟩
  have HB : Hid (Below w.heap.size w W) := by rw [← HW.out]; exact ((Below.refl _ w).alloc (Nat.le_refl _) _).alloc (by simp) _
  have hz : w.heap.size + 1 < W.heap.size := by rw [← HW.out]; simp
  have C1 : Hid (∀ U, Below w.heap.size w U → Calls Tryz.prog 135 #[.slice A1 bs.length c1, .slice A3 bs.length c3] U fun e w' => e = .returned (.bool true) ∧ ∃ q', w' = U.drewN q') := fun U hU => by
    have h := eqs_any A1 c1 bs A3 c3 bs U (HF.out.belowS hU).strs (HG.out.belowS hU).strs HF.out.lb HF.out.lb
    rw [decide_eq_true rfl] at h
    exact h
  have C2 : Hid (∀ U, Below w.heap.size w U → Calls Tryz.prog 136 #[.slice A2 hs.length c2, .slice A4 hs.length c4] U fun e w' => e = .returned (.bool true) ∧ ∃ q', w' = U.drewN q') := fun U hU => by
    have h := eqb_any A2 c2 hs A4 c4 hs U (HF.out.belowS hU).bits (HG.out.belowS hU).bits HF.out.lh HF.out.lh
    rw [decide_eq_true rfl] at h
    exact h
  have K1 : Hid (Blk W w.heap.size 56 (feedC p l d s A1 bs.length c1 A2 hs.length c2)) := by
    rw [← HW.out]
    exact (Blk.new w 56 _).alloc _
  have K2 : Hid (Blk W (w.heap.size + 1) 56 (feedC p l d s A3 bs.length c3 A4 hs.length c4)) := by
    rw [← HW.out]
    have h := Blk.new (w.alloc (.cells (feedC p l d s A1 bs.length c1 A2 hs.length c2) 56)) 56 (feedC p l d s A3 bs.length c3 A4 hs.length c4)
    rw [World.size_alloc] at h
    exact h
  obtain ⟨m, HM⟩ : ∃ m, Hid (bs.length = m) := ⟨_, rfl⟩
  obtain ⟨n, HN⟩ : ∃ n, Hid (hs.length = n) := ⟨_, rfl⟩
  rw [HM.out] at C1 K1 K2 HW ⊢
  rw [HN.out] at C2 K1 K2 HW ⊢
  clear hF hG
  go_enter Tryz.func88, Tryz.ntmps88
  go_wp2_with fail
  rw [HW.out]
  refine (eqHead_same l d s _).mono ?_
  rintro e w1 ⟨rfl, hb1⟩
  have HB1 : Hid (Below w.heap.size w w1) := HB.out.trans (hb1.mono HB.out.size)
  have K11 := Lib.hid (K1.out.below hb1 (by omega))
  have K21 := Lib.hid (K2.out.below hb1 (by omega))
  obtain ⟨a0, a1, a2, a3, a4, a5⟩ := feed_cells K11.out
  obtain ⟨b0, b1, b2, b3, b4, b5⟩ := feed_cells K21.out
  clear hb1
  go_wp2_with fail
  refine (C1.out _ HB1.out).mono ?_
  rintro e w2 ⟨rfl, q1, rfl⟩
  go_wp2_with fail
  refine (C2.out _ (below_drewN HB1.out q1)).mono ?_
  rintro e w3 ⟨rfl, q2, rfl⟩
  go_wp2
  go_ret
  exact ⟨rfl, below_drewN HB1.out _⟩

end Go.Proofs.YtkmebilhbjcfpaaGreat

namespace Go.Proofs.YtkmebilhbjcfpaaGreat
open Go.RowKit
set_option linter.unusedVariables false

theorem owns_block {w w' : World} {base : Nat} {A : Option Addr} {cap : Nat} {zs : List ByteArray} (h : OwnStrs w base A cap zs) (hk : ∀ g, A = some ⟨g, 0, none⟩ → w'.heap[g]? = w.heap[g]?) : OwnStrs w' base A cap zs := by
  refine ⟨h.1, ?_⟩
  rcases h.2 with h0 | ⟨g, c, cur, hv, hg, hgb, hr⟩
  · exact .inl h0
  · have hA : A = some ⟨g, 0, none⟩ := by injection hv
    exact .inr ⟨g, c, cur, hv, hg, (hk g hA).trans hgb, hr⟩

/-- What a count of the size of a list answers: at least 0 only if the list is short. -/
def SzS (left : Int) (n : Nat) (w : World) (e : Ending) (w' : World) : Prop := ∃ r : Int, e = .returned (.int .i64 r) ∧ -1 ≤ r ∧ r ≤ left ∧ (0 ≤ r → (n : Int) ≤ left) ∧ w = w'

set_option maxHeartbeats 2000000 in
theorem szStr_any (A : Option Addr) (cap : Nat) (bs : List ByteArray) (left : Int) (w : World) (hI : StrsAt w w.heap.size A bs) (hf : Fit bs) (hm : bs.length ≤ maxLen) (h0 : 0 ≤ left) (h1 : left ≤ 1048576) :
    Calls Tryz.prog 101 #[.slice A bs.length cap, .int .i64 left] w (SzS left bs.length w) := by
  unfold maxLen at hm
  have HI := Lib.hid hI
  have HF := Lib.hid hf
  obtain ⟨n, HN⟩ : ∃ n, Hid (bs.length = n) := ⟨_, rfl⟩
  rw [HN.out] at hm ⊢
  clear hI hf
  by_cases hl : (n : Int) ≤ left
  · go_enter Tryz.func101, Tryz.ntmps101
    go_wp2
    go_loop [1, 5] (fun x i => ∃ (k : Nat) (r : Int), k ≤ n ∧ i = .int .i64 k ∧ x = .int .i64 r ∧ 0 ≤ r ∧ r ≤ left) (fun _ i => n - (intOf i).toNat)
    case atStart => exact ⟨0, left - n, Nat.zero_le _, rfl, by go_num, by omega, by omega⟩
    case round =>
      obtain ⟨k, r, hk, rfl, rfl, hr0, hr1⟩ := hrel
      by_cases hlt : k < n
      · have hlz : k < bs.length := by rw [HN.out]; exact hlt
        obtain ⟨b, o, rfl, hb, hc⟩ := HI.out (by omega)
        have hck := hc k hlz
        have hfit := HF.out k
        unfold maxLen at hfit
        have hki : (k : Int) < (n : Int) := by omega
        obtain ⟨t, HT⟩ : ∃ t, Hid (sth bs k = t) := ⟨_, rfl⟩
        rw [HT.out] at hck hfit
        clear hc hlz
        by_cases hrt : (t.size : Int) ≤ r
        · go_wp2
          go_round
          case rel => exact ⟨k + 1, r - t.size, by omega, by go_num, by go_num, by omega, by omega⟩
          case measure => simp [intOf]; omega
        · go_wp2
          go_ret
          exact ⟨-1, rfl, by omega, by omega, fun h => by omega, rfl⟩
      · go_wp2
        go_ret
        exact ⟨r, rfl, by omega, by omega, fun _ => hl, rfl⟩
  · go_enter Tryz.func101, Tryz.ntmps101
    go_wp2
    go_ret
    exact ⟨-1, rfl, by omega, by omega, by omega, rfl⟩

set_option maxHeartbeats 2000000 in
theorem szBool_any (A : Option Addr) (n cap : Nat) (left : Int) (w : World) (hm : n ≤ maxLen) (h0 : 0 ≤ left) (h1 : left ≤ 1048576) :
    Calls Tryz.prog 102 #[.slice A n cap, .int .i64 left] w (SzS left n w) := by
  unfold maxLen at hm
  by_cases hl : (n : Int) ≤ left
  · go_enter Tryz.func102, Tryz.ntmps102
    go_wp2
    go_ret
    exact ⟨left - n, rfl, by omega, by omega, fun _ => hl, rfl⟩
  · go_enter Tryz.func102, Tryz.ntmps102
    go_wp2
    go_ret
    exact ⟨-1, rfl, by omega, by omega, by omega, rfl⟩

/-- What szFeed answers: at least 0 only if the lists are short. -/
def Sized (w : World) (bs : List ByteArray) (hs : List Bool) (e : Ending) (w' : World) : Prop :=
  ∃ r : Int, e = .returned (.int .i64 r) ∧ -1 ≤ r ∧ r ≤ 1048576 ∧ (0 ≤ r → bs.length ≤ 1048576 ∧ hs.length ≤ 1048576) ∧ Below w.heap.size w w'

set_option maxHeartbeats 2000000 in
set_option maxRecDepth 100000 in
theorem szFeed_any (p l d s : Int) (A1 : Option Addr) (c1 : Nat) (A2 : Option Addr) (c2 : Nat) (bs : List ByteArray) (hs : List Bool) (w : World) (hF : FeedAt w w.heap.size A1 A2 bs hs) :
    Calls Tryz.prog 47 #[feedV p l d s A1 bs.length c1 A2 hs.length c2, .int .i64 1048576] w (Sized w bs hs) := by
  have HF := Lib.hid hF
  have hlb := hF.lb
  have hlh := hF.lh
  clear hF
  have hbel : Below w.heap.size w (w.alloc (.cells (feedC p l d s A1 bs.length c1 A2 hs.length c2) 85)) := (Below.refl _ w).alloc (Nat.le_refl _) _
  have HB := Lib.hid hbel
  have C1 := Lib.hid (szStr_any A1 c1 bs 1048576 _ (HF.out.belowS hbel).strs HF.out.fit hlb (by omega) (by omega))
  clear hbel
  obtain ⟨m, HM⟩ : ∃ m, Hid (bs.length = m) := ⟨_, rfl⟩
  obtain ⟨n, HN⟩ : ∃ n, Hid (hs.length = n) := ⟨_, rfl⟩
  have FIN : Hid (∀ (r : Int) (W : World), -1 ≤ r → r ≤ 1048576 → (0 ≤ r → m ≤ 1048576 ∧ n ≤ 1048576) → Below w.heap.size w W → Sized w bs hs (.returned (.int .i64 r)) W) := fun r W h0 h1 h2 h3 => ⟨r, rfl, h0, h1, by rw [HM.out, HN.out]; exact h2, h3⟩
  rw [HM.out] at hlb C1 HB ⊢
  rw [HN.out] at hlh C1 HB ⊢
  go_enter Tryz.func47, Tryz.ntmps47
  go_wp2_with fail
  refine C1.out.mono ?_
  rintro e w1 ⟨r, rfl, hr0, hr1, hr2, rfl⟩
  by_cases hr : 0 ≤ r
  · have hr2' := hr2 hr
    clear hr2
    go_wp2_with fail
    refine (szBool_any A2 n c2 r _ hlh hr hr1).mono ?_
    rintro e w2 ⟨q, rfl, hq0, hq1, hq2, rfl⟩
    by_cases hq : 0 ≤ q
    · have hq2' := hq2 hq
      clear hq2
      go_wp2
      go_ret
      exact FIN.out _ _ (by omega) (by omega) (fun _ => ⟨by omega, by omega⟩) HB.out
    · clear hq2
      go_wp2
      go_ret
      exact FIN.out _ _ (by omega) (by omega) (fun h => by omega) HB.out
  · clear hr2
    go_wp2
    go_ret
    exact FIN.out _ _ (by omega) (by omega) (fun h => by omega) HB.out

/-- What toFeed hands back: the feed in memory of its own. -/
def CopiedF (w : World) (p l d s : Int) (bs : List ByteArray) (hs : List Bool) (e : Ending) (w' : World) : Prop :=
  ∃ g1 g2, e = .returned (feedV p l d s (some ⟨g1, 0, none⟩) bs.length bs.length (some ⟨g2, 0, none⟩) hs.length hs.length) ∧ OwnFeed w' w.heap.size (some ⟨g1, 0, none⟩) bs.length (some ⟨g2, 0, none⟩) hs.length bs hs ∧ Below w.heap.size w w'

set_option maxHeartbeats 2000000 in
set_option maxRecDepth 100000 in
theorem toFeed_any (p l d s : Int) (A1 : Option Addr) (c1 : Nat) (A2 : Option Addr) (c2 : Nat) (bs : List ByteArray) (hs : List Bool) (w : World) (hF : FeedAt w w.heap.size A1 A2 bs hs) (hlb : bs.length ≤ 1048576) (hlh : hs.length ≤ 1048576) :
    Calls Tryz.prog 68 #[feedV p l d s A1 bs.length c1 A2 hs.length c2] w (CopiedF w p l d s bs hs) := by
  have HF := Lib.hid hF
  clear hF
  go_enter Tryz.func68, Tryz.ntmps68
  obtain ⟨W, HW⟩ : ∃ W, Hid (((w.alloc (.cells (feedC p l d s A1 bs.length c1 A2 hs.length c2) 85)).alloc (.cells (feedC 0 0 0 0 none 0 0 none 0 0) 56)).alloc (.cells (feedC p 0 0 0 none 0 0 none 0 0) 56) = W) := ⟨_, rfl⟩
  have HB : Hid (Below w.heap.size w W) := by rw [← HW.out]; exact (((Below.refl _ w).alloc (Nat.le_refl _) _).alloc (by simp) _).alloc (by simp; omega) _
  have hz : w.heap.size + 3 ≤ W.heap.size := by rw [← HW.out]; simp
  have KP : Hid (Blk W w.heap.size 85 (feedC p l d s A1 bs.length c1 A2 hs.length c2)) := by rw [← HW.out]; exact ((Blk.new w 85 _).alloc _).alloc _
  have KR : Hid (Blk W (w.heap.size + 1) 56 (feedC 0 0 0 0 none 0 0 none 0 0)) := by
    rw [← HW.out]
    have h := (Blk.new (w.alloc (.cells (feedC p l d s A1 bs.length c1 A2 hs.length c2) 85)) 56 (feedC 0 0 0 0 none 0 0 none 0 0)).alloc (.cells (feedC p 0 0 0 none 0 0 none 0 0) 56)
    rw [World.size_alloc] at h
    exact h
  have KO : Hid (Blk W (w.heap.size + 1 + 1) 56 (feedC p 0 0 0 none 0 0 none 0 0)) := by
    rw [← HW.out]
    have h := Blk.new ((w.alloc (.cells (feedC p l d s A1 bs.length c1 A2 hs.length c2) 85)).alloc (.cells (feedC 0 0 0 0 none 0 0 none 0 0) 56)) 56 (feedC p 0 0 0 none 0 0 none 0 0)
    rw [World.size_alloc, World.size_alloc] at h
    exact h
  go_wp2_with fail
  rw [HW.out]
  refine (toHead_any l d s _).mono ?_
  rintro e w1 ⟨rfl, hb1⟩
  have HB1 : Hid (Below w.heap.size w w1) := HB.out.trans (hb1.mono HB.out.size)
  have hz1 : w.heap.size + 3 ≤ w1.heap.size := by have := hb1.size; omega
  have KP1 := Lib.hid (KP.out.below hb1 (by omega))
  have KR1 := Lib.hid (KR.out.below hb1 (by omega))
  have KO1 := Lib.hid (KO.out.below hb1 (by omega))
  obtain ⟨a0, a1, a2, a3, a4, a5⟩ := feed_cells KP1.out
  obtain ⟨o0, o1, o2, o3, o4, o5⟩ := feed_cells KO1.out
  have of := blk_frozen KO1.out
  clear hb1
  obtain ⟨V, HV⟩ : ∃ V, Hid (((w1.setCell ⟨w.heap.size + 1 + 1, 1, none⟩ (.int .i64 l)).setCell ⟨w.heap.size + 1 + 1, 2, none⟩ (.int .i64 d)).setCell ⟨w.heap.size + 1 + 1, 3, none⟩ (.int .i64 s) = V) := ⟨_, rfl⟩
  have HBV : Hid (Below w.heap.size w V) := by rw [← HV.out]; exact ((HB1.out.setCell (p := ⟨w.heap.size + 1 + 1, 1, none⟩) (by show w.heap.size ≤ w.heap.size + 1 + 1; omega) _).setCell (p := ⟨w.heap.size + 1 + 1, 2, none⟩) (by show w.heap.size ≤ w.heap.size + 1 + 1; omega) _).setCell (p := ⟨w.heap.size + 1 + 1, 3, none⟩) (by show w.heap.size ≤ w.heap.size + 1 + 1; omega) _
  have hzV : w.heap.size + 3 ≤ V.heap.size := by rw [← HV.out]; simp; omega
  have KPV : Hid (Blk V w.heap.size 85 (feedC p l d s A1 bs.length c1 A2 hs.length c2)) := by rw [← HV.out]; exact ((KP1.out.setOther (p := ⟨w.heap.size + 1 + 1, 1, none⟩) (by show w.heap.size + 1 + 1 ≠ w.heap.size; omega) _).setOther (p := ⟨w.heap.size + 1 + 1, 2, none⟩) (by show w.heap.size + 1 + 1 ≠ w.heap.size; omega) _).setOther (p := ⟨w.heap.size + 1 + 1, 3, none⟩) (by show w.heap.size + 1 + 1 ≠ w.heap.size; omega) _
  have KRV : Hid (Blk V (w.heap.size + 1) 56 (feedC 0 0 0 0 none 0 0 none 0 0)) := by rw [← HV.out]; exact ((KR1.out.setOther (p := ⟨w.heap.size + 1 + 1, 1, none⟩) (by show w.heap.size + 1 + 1 ≠ w.heap.size + 1; omega) _).setOther (p := ⟨w.heap.size + 1 + 1, 2, none⟩) (by show w.heap.size + 1 + 1 ≠ w.heap.size + 1; omega) _).setOther (p := ⟨w.heap.size + 1 + 1, 3, none⟩) (by show w.heap.size + 1 + 1 ≠ w.heap.size + 1; omega) _
  have KOV : Hid (Blk V (w.heap.size + 1 + 1) 56 (feedC p l d s none 0 0 none 0 0)) := by rw [← HV.out]; exact ((KO1.out.setOwn 1 (.int .i64 l)).setOwn 2 (.int .i64 d)).setOwn 3 (.int .i64 s)
  go_wp2_with fail
  rw [HV.out]
  refine (toStrs_any A1 c1 bs _ (HF.out.belowS HBV.out).strs hlb).mono ?_
  rintro e w2 ⟨rfl, ho2, hb2⟩
  have HB2 : Hid (Below w.heap.size w w2) := HBV.out.trans (hb2.mono HBV.out.size)
  have hz2 : V.heap.size ≤ w2.heap.size := hb2.size
  have KP2 := Lib.hid (KPV.out.below hb2 (by omega))
  have KR2 := Lib.hid (KRV.out.below hb2 (by omega))
  have KO2 := Lib.hid (KOV.out.below hb2 (by omega))
  have HO2 := Lib.hid ho2
  clear a0 a1 a2 a3 a4 a5 o0 o1 o2 o3 o4 o5 of hb2 ho2
  obtain ⟨a0, a1, a2, a3, a4, a5⟩ := feed_cells KP2.out
  obtain ⟨o0, o1, o2, o3, o4, o5⟩ := feed_cells KO2.out
  have of := blk_frozen KO2.out
  obtain ⟨X, HX⟩ : ∃ X, Hid (w2.setCell ⟨w.heap.size + 1 + 1, 4, none⟩ (.slice (some ⟨V.heap.size, 0, none⟩) bs.length bs.length) = X) := ⟨_, rfl⟩
  have HBX : Hid (Below w.heap.size w X) := by rw [← HX.out]; exact HB2.out.setCell (p := ⟨w.heap.size + 1 + 1, 4, none⟩) (by show w.heap.size ≤ w.heap.size + 1 + 1; omega) _
  have hzX : V.heap.size ≤ X.heap.size := by rw [← HX.out]; simp; omega
  have KRX : Hid (Blk X (w.heap.size + 1) 56 (feedC 0 0 0 0 none 0 0 none 0 0)) := by rw [← HX.out]; exact KR2.out.setOther (p := ⟨w.heap.size + 1 + 1, 4, none⟩) (by show w.heap.size + 1 + 1 ≠ w.heap.size + 1; omega) _
  have KOX : Hid (Blk X (w.heap.size + 1 + 1) 56 (feedC p l d s (some ⟨V.heap.size, 0, none⟩) bs.length bs.length none 0 0)) := by rw [← HX.out]; exact KO2.out.setOwn 4 _
  have HOX : Hid (OwnStrs X w.heap.size (some ⟨V.heap.size, 0, none⟩) bs.length bs) := by
    rw [← HX.out]
    refine (owns_block HO2.out ?_).base_le (by omega)
    intro g hg
    injection hg with hg
    injection hg with hg _ _
    exact Below.heap_setCell w2 ⟨w.heap.size + 1 + 1, 4, none⟩ _ g (by show g ≠ w.heap.size + 1 + 1; omega)
  go_wp2_with fail
  rw [HX.out]
  refine (toBools_any A2 c2 hs _ (HF.out.belowS HBX.out).bits hlh).mono ?_
  rintro e w3 ⟨rfl, ho3, hb3⟩
  have HB3 : Hid (Below w.heap.size w w3) := HBX.out.trans (hb3.mono HBX.out.size)
  have hz3 : X.heap.size ≤ w3.heap.size := hb3.size
  have KR3 := Lib.hid (KRX.out.below hb3 (by omega))
  have KO3 := Lib.hid (KOX.out.below hb3 (by omega))
  have HO3 := Lib.hid ho3
  have HS3 := Lib.hid (HOX.out.below hb3)
  clear a0 a1 a2 a3 a4 a5 o0 o1 o2 o3 o4 o5 of hb3 ho3
  obtain ⟨o0, o1, o2, o3, o4, o5⟩ := feed_cells KO3.out
  have of := blk_frozen KO3.out
  obtain ⟨r0, r1, r2, r3, r4, r5⟩ := feed_cells KR3.out
  have rf := blk_frozen KR3.out
  go_wp2
  obtain ⟨Y, HY⟩ : ∃ Y, Hid ((((((((w3.setCell ⟨w.heap.size + 1 + 1, 5, none⟩ (.slice (some ⟨X.heap.size, 0, none⟩) hs.length hs.length)).setCell ⟨w.heap.size + 1, 0, none⟩ (.int .i64 p)).setCell ⟨w.heap.size + 1, 1, none⟩ (.int .i64 l)).setCell ⟨w.heap.size + 1, 2, none⟩ (.int .i64 d)).setCell ⟨w.heap.size + 1, 3, none⟩ (.int .i64 s)).setCell ⟨w.heap.size + 1, 4, none⟩ (.slice (some ⟨V.heap.size, 0, none⟩) bs.length bs.length)).setCell ⟨w.heap.size + 1, 5, none⟩ (.slice (some ⟨X.heap.size, 0, none⟩) hs.length hs.length)) = Y) := ⟨_, rfl⟩
  have hbl3 : Below w.heap.size w (w3.setCell ⟨w.heap.size + 1 + 1, 5, none⟩ (.slice (some ⟨X.heap.size, 0, none⟩) hs.length hs.length)) := HB3.out.setCell (p := ⟨w.heap.size + 1 + 1, 5, none⟩) (by show w.heap.size ≤ w.heap.size + 1 + 1; omega) _
  have HBY : Hid (Below w.heap.size w Y) := by rw [← HY.out]; exact below_six hbl3 (by omega) _ _ _ _ _ _
  have KRY : Hid (Blk Y (w.heap.size + 1) 56 (feedC p l d s (some ⟨V.heap.size, 0, none⟩) bs.length bs.length (some ⟨X.heap.size, 0, none⟩) hs.length hs.length)) := by
    rw [← HY.out]
    exact blk_six (KR3.out.setOther (p := ⟨w.heap.size + 1 + 1, 5, none⟩) (by show w.heap.size + 1 + 1 ≠ w.heap.size + 1; omega) _) _ _ _ _ _ _
  have hk : ∀ g, w.heap.size + 3 ≤ g → Y.heap[g]? = w3.heap[g]? := fun g hg => by
    rw [← HY.out]
    rw [Below.heap_setCell _ ⟨w.heap.size + 1, 5, none⟩ _ g (by show g ≠ w.heap.size + 1; omega), Below.heap_setCell _ ⟨w.heap.size + 1, 4, none⟩ _ g (by show g ≠ w.heap.size + 1; omega), Below.heap_setCell _ ⟨w.heap.size + 1, 3, none⟩ _ g (by show g ≠ w.heap.size + 1; omega), Below.heap_setCell _ ⟨w.heap.size + 1, 2, none⟩ _ g (by show g ≠ w.heap.size + 1; omega), Below.heap_setCell _ ⟨w.heap.size + 1, 1, none⟩ _ g (by show g ≠ w.heap.size + 1; omega), Below.heap_setCell _ ⟨w.heap.size + 1, 0, none⟩ _ g (by show g ≠ w.heap.size + 1; omega), Below.heap_setCell _ ⟨w.heap.size + 1 + 1, 5, none⟩ _ g (by show g ≠ w.heap.size + 1 + 1; omega)]
  have hown : OwnFeed Y w.heap.size (some ⟨V.heap.size, 0, none⟩) bs.length (some ⟨X.heap.size, 0, none⟩) hs.length bs hs := by
    refine ⟨owns_block HS3.out ?_, (ownb_block HO3.out ?_).base_le (by omega), HF.out.fit⟩
    · intro g hg
      injection hg with hg
      injection hg with hg _ _
      exact hk g (by omega)
    · intro g hg
      injection hg with hg
      injection hg with hg _ _
      exact hk g (by omega)
  rw [HY.out]
  clear hk
  obtain ⟨z0, z1, z2, z3, z4, z5⟩ := feed_cells KRY.out
  exact bodyPost_ret (v := feedV p l d s (some ⟨V.heap.size, 0, none⟩) bs.length bs.length (some ⟨X.heap.size, 0, none⟩) hs.length hs.length) (by simp [results, Tryz.results68, go_sem, z0, z1, z2, z3, z4, z5]) rfl ⟨_, _, rfl, hown, HBY.out⟩

/-- What marking a feed of the call's own leaves. -/
def MarkedF (w : World) (base : Nat) (A1 : Option Addr) (c1 : Nat) (A2 : Option Addr) (c2 : Nat) (n1 n2 : Nat) (e : Ending) (w' : World) : Prop :=
  e = .returned (.int .i64 ((1 + n1 + n2 : Nat) : Int)) ∧ OwnFeed w' base A1 c1 A2 c2 (smarks 1 n1) (bmarks (1 + n1) n2) ∧ Below base w w' ∧ (∀ i, i < w.heap.size → (∀ g, A1 = some ⟨g, 0, none⟩ → i ≠ g) → (∀ g, A2 = some ⟨g, 0, none⟩ → i ≠ g) → w'.heap[i]? = w.heap[i]?)

theorem owns_form {w : World} {base : Nat} {A : Option Addr} {cap : Nat} {zs : List ByteArray} (h : OwnStrs w base A cap zs) : A = none ∨ ∃ g, A = some ⟨g, 0, none⟩ := by
  rcases h.2 with ⟨hv, _⟩ | ⟨g, c, cur, hv, _⟩
  · injection hv with hA _ _; exact .inl hA
  · injection hv with hA _ _; exact .inr ⟨g, hA⟩
theorem owns_lt {w : World} {base : Nat} {A : Option Addr} {cap : Nat} {zs : List ByteArray} (h : OwnStrs w base A cap zs) : ∀ g, A = some ⟨g, 0, none⟩ → base ≤ g ∧ g < w.heap.size := by
  intro g hA
  subst hA
  exact World.ownsRow.lt h g rfl
theorem markeds_other {w w' : World} {base : Nat} {A : Option Addr} {cap k0 n : Nat} {zs : List ByteArray} {e : Ending} (h : OwnStrs w base A cap zs) (hm : MarkedS w base A cap k0 n e w') : Below base w w' ∧ (∀ i, i < w.heap.size → (∀ g, A = some ⟨g, 0, none⟩ → i ≠ g) → w'.heap[i]? = w.heap[i]?) := by
  obtain ⟨_, _, hg, hn⟩ := hm
  rcases owns_form h with hA | ⟨g, hA⟩
  · have e := hn hA
    subst e
    exact ⟨Below.refl _ _, fun i _ _ => rfl⟩
  · have hgg := hg g hA
    have hlt := owns_lt h g hA
    exact ⟨(Below.refl _ _).grown hgg (by omega) (fun k hk => by injection hk with hk; omega), fun i hi hne => hgg.block i hi (fun e => hne g hA (by injection e))⟩
/-- A row of texts and a row of bools do not lie in one block. -/
theorem rows_part {w : World} {b1 b2 : Nat} {A1 A2 : Option Addr} {c1 c2 : Nat} {bs : List ByteArray} {hs : List Bool} (h1 : OwnStrs w b1 A1 c1 bs) (h2 : OwnBools w b2 A2 c2 hs) : ∀ g g', A1 = some ⟨g, 0, none⟩ → A2 = some ⟨g', 0, none⟩ → g ≠ g' := by
  intro g g' e1 e2 e
  subst e
  rcases h1.2 with ⟨hv, _⟩ | ⟨x, c, cur, hv, _, hb, _⟩
  · injection hv with hA _ _; rw [hA] at e1; cases e1
  · rcases h2.2 with ⟨hv2, _⟩ | ⟨y, c', cur', hv2, _, hb2, _⟩
    · injection hv2 with hA _ _; rw [hA] at e2; cases e2
    · injection hv with hA _ _
      injection hv2 with hA2 _ _
      rw [e1] at hA
      rw [e2] at hA2
      injection hA with hA
      injection hA with hA _ _
      injection hA2 with hA2
      injection hA2 with hA2 _ _
      subst hA hA2
      rw [hb] at hb2
      injection hb2 with hb2
      injection hb2 with _ ht _
      exact absurd ht (by decide)
theorem decT_size : ∀ (f k : Nat) (out : ByteArray), (decT f k out).size ≤ out.size + f
  | 0, _, out => Nat.le_refl _
  | f + 1, k, out => by
    by_cases hk : k = 0
    · subst hk; rw [decT_zero]; omega
    · rw [decT_succ f k out (by omega)]
      have h := decT_size f (k / 10) (ByteArray.empty.push (48 + UInt8.ofNat (k % 10)) ++ out)
      rw [ByteArray.size_append] at h
      have h1 : (ByteArray.empty.push (48 + UInt8.ofNat (k % 10))).size = 1 := rfl
      omega
theorem markT_size (k : Nat) : (markT k).size ≤ 1 + k := by
  unfold markT
  rw [ByteArray.size_append]
  have h := decT_size k k ByteArray.empty
  have h0 : ByteArray.empty.size = 0 := rfl
  have h1 : letterM.size = 1 := rfl
  omega
theorem fit_marks (k n : Nat) (h : k + n ≤ 4000000) : Fit (smarks k n) := fun j => by
  by_cases hj : j < n
  · rw [smarks_sth k n j hj]
    have := markT_size (k + j)
    unfold maxLen
    omega
  · rw [sth_none _ _ (by rw [smarks_length]; omega)]
    exact Nat.zero_le _





end Go.Proofs.YtkmebilhbjcfpaaGreat
