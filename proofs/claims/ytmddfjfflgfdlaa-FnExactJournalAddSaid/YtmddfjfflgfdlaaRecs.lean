/- Records of a journal: as data, in memory, when a journal is valid. No conditions. -/
import Derived.Test.YtmddfjfflgfdlaaRow
import Derived.Test.YtmddfjfflgfdlaaBlk
namespace Go.Proofs.Ytmddfjfflgfdlaa
open Go.RowKit
set_option linter.unusedVariables false

/-- A record as data. -/
structure RD where
  i : Int
  t : ByteArray
def RK : Kind RD := ⟨38, 2, 24, fun r => [.int .i64 r.i, .string r.t], fun _ => rfl, fun r u hu => by
  simp only [List.mem_cons, List.not_mem_nil, or_false] at hu
  rcases hu with rfl | rfl <;> rfl, by decide⟩
theorem rec_info : (Try.prog.info? 38).map (fun i => (i.zero, i.size, i.bytes)) = some (some (.agg #[.int .i64 0, .string ByteArray.empty]), 2, 24) := by kernel_rfl
/-- The k-th record. -/
def rth (rs : List RD) (k : Nat) : RD := rs.getD k ⟨0, ByteArray.empty⟩
theorem rth_get (rs : List RD) (k : Nat) (h : k < rs.length) : rs[k]? = some (rth rs k) := by
  unfold rth; rw [List.getD_eq_getElem?_getD, List.getElem?_eq_getElem h]; rfl
theorem rth_eq (rs : List RD) (k : Nat) (h : k < rs.length) : rth rs k = rs[k] := by
  have := rth_get rs k h
  rw [List.getElem?_eq_getElem h] at this
  injection this with this
  exact this.symm
theorem take_rth (rs : List RD) (k : Nat) (h : k < rs.length) : rs.take (k + 1) = rs.take k ++ [rth rs k] := by
  rw [List.take_succ_eq_append_getElem h, rth_eq rs k h]
theorem rth_take (rs : List RD) (n k : Nat) (h : k < n) : rth (rs.take n) k = rth rs k := by
  unfold rth; rw [List.getD_eq_getElem?_getD, List.getD_eq_getElem?_getD, List.getElem?_take_of_lt h]
abbrev recV (r : RD) : Value := .agg #[.int .i64 r.i, .string r.t]
abbrev journalV (A : Option Addr) (n c : Nat) (s : Int) : Value := .agg #[.slice A n c, .int .i64 s]
/-- No text is longer than a text can be. -/
def FitR (rs : List RD) : Prop := ∀ k, (rth rs k).t.size ≤ maxLen
theorem rth_none (rs : List RD) (k : Nat) (h : rs.length ≤ k) : rth rs k = ⟨0, ByteArray.empty⟩ := by
  unfold rth; rw [List.getD_eq_getElem?_getD, List.getElem?_eq_none h]; rfl
theorem FitR.of {rs : List RD} (h : ∀ x ∈ rs, x.t.size ≤ maxLen) : FitR rs := fun k => by
  by_cases hk : k < rs.length
  · rw [rth_eq rs k hk]; exact h _ (List.getElem_mem hk)
  · rw [rth_none rs k (by omega)]; exact Nat.zero_le _
theorem FitR.mem {rs : List RD} (h : FitR rs) : ∀ x ∈ rs, x.t.size ≤ maxLen := fun x hx => by
  obtain ⟨k, hk, rfl⟩ := List.getElem_of_mem hx
  rw [← rth_eq rs k hk]; exact h k
theorem FitR.take {rs : List RD} (h : FitR rs) (n : Nat) : FitR (rs.take n) := FitR.of fun x hx => h.mem x (List.mem_of_mem_take hx)
theorem FitR.snoc {rs : List RD} (h : FitR rs) {r : RD} (hr : r.t.size ≤ maxLen) : FitR (rs ++ [r]) := FitR.of fun x hx => by
  rcases List.mem_append.1 hx with hx | hx
  · exact h.mem x hx
  · rw [List.mem_singleton.1 hx]; exact hr
section
variable {w w' : World} {B base cap : Nat} {A : Option Addr} {rs : List RD}
/-- The two cells of a record. -/
theorem rec_cells {b o : Nat} (h : RowAt RK w B (some ⟨b, o, none⟩) rs) (k : Nat) (hk : k < rs.length) : w.cell? ⟨b, o + k * 2, none⟩ = some (.int .i64 (rth rs k).i) ∧ w.cell? ⟨b, o + k * 2 + 1, none⟩ = some (.string (rth rs k).t) := by
  have hc := (h.lt (by omega)).2 k (rth rs k) (rth_get rs k hk)
  exact ⟨hc 0 _ rfl, hc 1 _ rfl⟩
end

/-! ### the plain mathematics -/
def recOk (r : RD) : Prop := 0 ≤ r.i ∧ r.i < 16 ∧ r.t.size ≤ 8
instance (r : RD) : Decidable (recOk r) := by unfold recOk; infer_instance
def recB (r : RD) : Bool := decide (recOk r)
theorem recB_iff (r : RD) : recB r = true ↔ recOk r := by unfold recB; rw [decide_eq_true_eq]
def allB (rs : List RD) : Bool := decide (∀ k, k < rs.length → recB (rth rs k) = true)
theorem allB_iff (rs : List RD) : allB rs = true ↔ ∀ k, k < rs.length → recB (rth rs k) = true := by unfold allB; rw [decide_eq_true_eq]
theorem allB_no {rs : List RD} {k : Nat} (hk : k < rs.length) (h : recB (rth rs k) = false) : allB rs = false := by
  rw [Bool.eq_false_iff]
  intro e
  have := (allB_iff rs).1 e k hk
  rw [h] at this
  cases this
def jokB (rs : List RD) (s : Int) : Bool := decide (rs.length ≤ 20) && (decide (0 ≤ s) && (decide (s ≤ rs.length) && allB rs))
theorem jokB_iff (rs : List RD) (s : Int) : jokB rs s = true ↔ rs.length ≤ 20 ∧ 0 ≤ s ∧ s ≤ rs.length ∧ allB rs = true := by
  unfold jokB; simp only [Bool.and_eq_true, decide_eq_true_eq]
theorem jokB_no {rs : List RD} {s : Int} (h : ¬ (rs.length ≤ 20 ∧ 0 ≤ s ∧ s ≤ rs.length ∧ allB rs = true)) : jokB rs s = false := by
  rw [Bool.eq_false_iff]; exact fun e => h ((jokB_iff rs s).1 e)
theorem allB_take {rs : List RD} (h : allB rs = true) (n : Nat) : allB (rs.take n) = true := by
  rw [allB_iff] at h ⊢
  intro k hk
  rw [List.length_take] at hk
  rw [rth_take rs n k (by omega)]
  exact h k (by omega)
theorem rth_left (a b : List RD) (k : Nat) (h : k < a.length) : rth (a ++ b) k = rth a k := by
  unfold rth; rw [List.getD_eq_getElem?_getD, List.getD_eq_getElem?_getD, List.getElem?_append_left h]
theorem rth_snoc (a : List RD) (r : RD) : rth (a ++ [r]) a.length = r := by
  unfold rth; rw [List.getD_eq_getElem?_getD, List.getElem?_append_right (Nat.le_refl _), Nat.sub_self]; rfl
theorem allB_snoc {rs : List RD} {r : RD} (h : allB rs = true) (hr : recB r = true) : allB (rs ++ [r]) = true := by
  rw [allB_iff] at h ⊢
  intro k hk
  rw [List.length_append] at hk
  by_cases hlt : k < rs.length
  · rw [rth_left _ _ _ hlt]; exact h k hlt
  · have : k = rs.length := by simp at hk; omega
    subst this
    rw [rth_snoc]; exact hr
theorem recs_ext {a b : List RD} (hl : a.length = b.length) (h : ∀ k, k < a.length → (rth a k).i = (rth b k).i ∧ (rth a k).t = (rth b k).t) : a = b := by
  refine List.ext_getElem hl fun k h1 h2 => ?_
  have := h k h1
  rw [rth_eq a k h1, rth_eq b k h2] at this
  cases ha : a[k] with | mk i t =>
  cases hb : b[k] with | mk i' t' =>
  rw [ha, hb] at this
  simp only at this
  rw [this.1, this.2]

/-- Is the record added? -/
def addB (rs : List RD) (s : Int) (r : RD) : Bool := jokB rs s && (recB r && decide (rs.length < 20))
theorem addB_iff (rs : List RD) (s : Int) (r : RD) : addB rs s r = true ↔ jokB rs s = true ∧ recB r = true ∧ rs.length < 20 := by
  unfold addB; simp only [Bool.and_eq_true, decide_eq_true_eq]
def addR (rs : List RD) (s : Int) (r : RD) : List RD := if jokB rs s = true ∧ recB r = true then (if rs.length < 20 then rs ++ [r] else rs) else []
def addS (rs : List RD) (s : Int) (r : RD) : Int := if jokB rs s = true ∧ recB r = true then s else 0
def syncR (rs : List RD) (s : Int) : List RD := if jokB rs s = true then rs else []
def syncS (rs : List RD) (s : Int) : Int := if jokB rs s = true then rs.length else 0
/-- How many records survive. -/
def keepN (rs : List RD) (s keep : Int) : Nat := (s + min keep (rs.length - s)).toNat
def crashR (rs : List RD) (s keep : Int) : List RD := if jokB rs s = true ∧ 0 ≤ keep then rs.take (keepN rs s keep) else []
def crashS (rs : List RD) (s keep : Int) : Int := if jokB rs s = true ∧ 0 ≤ keep then (keepN rs s keep : Nat) else 0

end Go.Proofs.Ytmddfjfflgfdlaa
