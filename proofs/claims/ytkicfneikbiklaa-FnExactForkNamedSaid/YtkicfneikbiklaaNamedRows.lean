/- Proofs of forks in a list: as data, in memory; the contracts of maps.Keys and slices.Sorted at a map of the call's own. Conditions: the list lies in memory. -/
import Derived.Test.YtkicfneikbiklaaNamedKeys
import Derived.Test.YtkicfneikbiklaaRow
import Derived.Test.YtkicfneikbiklaaFork
namespace Go.Proofs.Ytkicfneikbiklaa
open Go.RowKit Go.Maps Go.Sort Go.Shelf
set_option linter.unusedVariables false

/-- A proof of a fork as data. -/
structure KD where
  p : Int
  a : Int
  b : Int
  c : Int
  x : Int
  y : Int
  z : Int
def kth (xs : List KD) (k : Nat) : KD := xs.getD k ⟨0, 0, 0, 0, 0, 0, 0⟩
theorem kth_get (xs : List KD) (k : Nat) (h : k < xs.length) : xs[k]? = some (kth xs k) := by
  unfold kth; rw [List.getD_eq_getElem?_getD, List.getElem?_eq_getElem h]; rfl
theorem take_kth (xs : List KD) (k : Nat) (h : k < xs.length) : xs.take (k + 1) = xs.take k ++ [kth xs k] := by
  have e := kth_get xs k h
  rw [List.getElem?_eq_getElem h] at e
  injection e with e
  rw [List.take_succ_eq_append_getElem h, e]
def okK (r : KD) : Bool := forkB r.p r.a r.b r.c r.x r.y r.z
def KK : Kind KD := ⟨32, 7, 56, fun r => [.int .i64 r.p, .int .i64 r.a, .int .i64 r.b, .int .i64 r.c, .int .i64 r.x, .int .i64 r.y, .int .i64 r.z], fun _ => rfl, fun r u hu => by
  simp only [List.mem_cons, List.not_mem_nil, or_false] at hu
  rcases hu with rfl | rfl | rfl | rfl | rfl | rfl | rfl <;> rfl, by decide⟩
theorem fork_seven {w : World} {B : Nat} {xs : List KD} {b o : Nat} (h : RowAt KK w B (some ⟨b, o, none⟩) xs) (k : Nat) (hk : k < xs.length) : w.cell? ⟨b, o + k * 7, none⟩ = some (.int .i64 (kth xs k).p) ∧ w.cell? ⟨b, o + k * 7 + 1, none⟩ = some (.int .i64 (kth xs k).a) ∧ w.cell? ⟨b, o + k * 7 + 2, none⟩ = some (.int .i64 (kth xs k).b) ∧ w.cell? ⟨b, o + k * 7 + 3, none⟩ = some (.int .i64 (kth xs k).c) ∧ w.cell? ⟨b, o + k * 7 + 4, none⟩ = some (.int .i64 (kth xs k).x) ∧ w.cell? ⟨b, o + k * 7 + 5, none⟩ = some (.int .i64 (kth xs k).y) ∧ w.cell? ⟨b, o + k * 7 + 6, none⟩ = some (.int .i64 (kth xs k).z) := by
  have hc := (h.lt (by omega)).2 k (kth xs k) (kth_get xs k hk)
  exact ⟨hc 0 _ rfl, hc 1 _ rfl, hc 2 _ rfl, hc 3 _ rfl, hc 4 _ rfl, hc 5 _ rfl, hc 6 _ rfl⟩

/-- The map of the public keys of the right proofs, as data. -/
def namedD (xs : List KD) : DataW Unit := xs.foldl (fun D r => if okK r = true then D.put (.int .i64 r.p) (.lit (.bool true)) else D) (.map [])
theorem named_nil : namedD [] = .map [] := rfl
theorem named_snoc (xs : List KD) (r : KD) : namedD (xs ++ [r]) = if okK r = true then (namedD xs).put (.int .i64 r.p) (.lit (.bool true)) else namedD xs := by
  unfold namedD; rw [List.foldl_append]; rfl

theorem owns_below {w w' : World} {k : TypeId} {R : Value → Option (DataW Unit × List MemPlace)} {b n B : Nat} {D : DataW Unit} (h : w.ownsMap Try.prog k R b n D) (hb : Below B w w') (hB : b < B) : w'.ownsMap Try.prog k R b n D := by
  obtain ⟨es, clock, h1, h2⟩ := h
  exact ⟨es, clock, (hb.block b hB).trans h1, h2⟩
theorem owns_size {w : World} {k : TypeId} {R : Value → Option (DataW Unit × List MemPlace)} {b n : Nat} {D : DataW Unit} (h : w.ownsMap Try.prog k R b n D) : Maps.size D ≤ n := by
  obtain ⟨es, clock, _, _, h3, rfl⟩ := h
  have e1 : Maps.size (DataW.map ((es.toList.map (WideElems.rg Try.prog k R)).foldr DataW.insert [])) = es.size := by simp [Maps.size, length_sorted]
  omega

/-- maps.Keys hands back an iterator over the map. -/
theorem keysOf_any (mb : Option Nat) (W : World) :
    Calls Try.prog 26 #[.map mb] W fun e w' => e = .returned (.func (.func 39) #[] #[.pointer (some ⟨W.heap.size, 0, none⟩)]) ∧ w' = W.alloc (.cells #[.map mb] 48) :=
  (callsIn_wide (n := 5)).1 (AnyZI.keys_in lkeys Fence.wide 5 trivial rfl mb W)

/-- slices.Sorted of that iterator: the keys, sorted. -/
theorem sortedOf_any (b nn : Nat) (D0 : DataW Unit) (R : Value → Option (DataW Unit × List MemPlace)) (w : World) (hown : w.ownsMap Try.prog 3 R b nn D0) (hmax : Maps.size D0 ≤ maxLen) (hbytes : Maps.size D0 * 8 ≤ 140737488355328) :
    Calls Try.prog 25 #[.func (.func 39) #[] #[.pointer (some ⟨w.heap.size, 0, none⟩)]] (w.alloc (.cells #[.map (some b)] 48)) fun e w' => ∃ (v : Value) (ss : List Int), e = .returned v ∧ ss.Perm (intKeys D0) ∧
      w'.ownsRow w.heap.size 3 1 v ss.length ((ss.mergeSort (fun x y => decide (x ≤ y))).map encZ) ∧ (v = .slice none 0 0 ↔ ss = []) ∧ Below w.heap.size w w' := by
  have hbl := hown.lt
  have hseq : SeqGives Fence.wide 2 Try.prog 39 #[.pointer (some ⟨w.heap.size, 0, none⟩)] encZ (fun ss => ss.Perm (intKeys D0)) (Maps.size D0) (w.alloc (.cells #[.map (some b)] 48)) :=
    AnyZI.keys_gives (ρ := lkeys_ren) { lkeys with } Fence.wide _ trivial rfl (by omega) w.heap.size b nn D0 _ (by simp) (by simp) (by
      obtain ⟨es, clock, hb, Ft, hs, hD⟩ := hown
      exact ⟨es, clock, (Below.heap_alloc _ _ b hbl).trans hb, Ft, hs, hD⟩)
  have cS := AnyZI.sorted_in lsorted Fence.wide 5 trivial trivial trivial trivial rfl (by omega) (sortsA _) (enters_of Try.func38 (by kernel_rfl) rfl) 39 #[.pointer (some ⟨w.heap.size, 0, none⟩)] trivial (enters_of Try.func39 (by kernel_rfl) rfl) _ _ hmax hbytes _ hseq
  change CallsIn _ _ Try.prog 25 _ _ _ at cS
  refine ((callsIn_wide (n := 5)).1 cS).mono ?_
  rintro e w' ⟨v, ss, rfl, hS, hrow, hnil, hb⟩
  exact ⟨v, ss, rfl, hS, ownsRow_base_a hrow (by simp), hnil, ((Below.refl _ w).alloc (Nat.le_refl _) _).trans (hb.mono (by simp))⟩

end Go.Proofs.Ytkicfneikbiklaa
