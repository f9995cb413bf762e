/- Contracts of recordValid, recordQueue, offerRecord and drainRecords: records go into a channel with room for twenty, and come out of it in order. Conditions: as each statement says. -/
import Derived.Test.YtmddfjfflgfdlaaRecs
import Derived.Test.YtmddfjfflgfdlaaComm
import Derived.Conc.SmallLaws
import Derived.Conc.EventLaws
import Derived.IntWalk
import Derived.Deep.DeepCutAuto
import Derived.RegionTactic
namespace Go.Proofs.Ytmddfjfflgfdlaa
open Go.RowKit Go.Conc
set_option linter.unusedVariables false

theorem and_t {a b : Bool} (ha : a = true) (hb : b = true) : (a && b) = true := by rw [ha, hb]; rfl
set_option maxHeartbeats 1000000 in
theorem recordValid_any (r : RD) (w : World) (hm : r.t.size ≤ maxLen) :
    Calls Try.prog 37 #[recV r] w fun e w' => e = .returned (.bool (recB r)) ∧ Below w.heap.size w w' := by
  obtain ⟨i, t⟩ := r
  unfold maxLen at hm
  have HR : Hid (recB ⟨i, t⟩ = decide (0 ≤ i ∧ i < 16 ∧ t.size ≤ 8)) := rfl
  by_cases h0 : 0 ≤ i
  · by_cases h1 : i < 16
    · by_cases h2 : t.size ≤ 8
      · have h2i : (t.size : Int) ≤ 8 := by omega
        go_enter Try.func37, Try.ntmps37
        go_wp2
        go_ret
        exact ⟨ret_bool (by rw [HR.out, decide_eq_true ⟨h0, h1, h2⟩]), (Below.refl _ _).alloc (Nat.le_refl _) _⟩
      · have h2i : ¬ (t.size : Int) ≤ 8 := by omega
        go_enter Try.func37, Try.ntmps37
        go_wp2
        go_ret
        exact ⟨ret_bool (by rw [HR.out, decide_eq_false (fun k => by have := k.2.2; omega)]), (Below.refl _ _).alloc (Nat.le_refl _) _⟩
    · go_enter Try.func37, Try.ntmps37
      go_wp2
      go_ret
      exact ⟨ret_bool (by rw [HR.out, decide_eq_false (fun k => by have := k.2.1; omega)]), (Below.refl _ _).alloc (Nat.le_refl _) _⟩
  · go_enter Try.func37, Try.ntmps37
    go_wp2
    go_ret
    exact ⟨ret_bool (by rw [HR.out, decide_eq_false (fun k => by have := k.1; omega)]), (Below.refl _ _).alloc (Nat.le_refl _) _⟩

theorem queue_bytes : ∃ i, Try.prog.info? 38 = some i ∧ i.bytes = 24 := by
  obtain ⟨i, h1, _, _, h4⟩ := info_parts rec_info
  exact ⟨i, h1, h4⟩
theorem mkQueue (w : World) : (Instr.makeChan 59 (.int .i64 20)).run Try.prog w = .ok (.chan (some w.heap.size)) (w.alloc (.chan 20 #[] false 0 0 false)) := by
  obtain ⟨i, hi, hb⟩ := queue_bytes
  simpa using run_makeChan (P := Try.prog) (w := w) Try.underlying59 hi .i64 20 (by omega) (by rw [hb]; omega)

/-- The channel at block c holds buf. -/
def ChanAt (w : World) (c : Nat) (buf : List Value) (closed : Bool) : Prop := ∃ s r, w.heap[c]? = some (.chan 20 buf.toArray closed s r false)
section
variable {w w' : World} {c : Nat} {buf : List Value} {closed : Bool}
theorem ChanAt.lt (h : ChanAt w c buf closed) : c < w.heap.size := by
  obtain ⟨s, r, h⟩ := h
  exact (Array.getElem?_eq_some_iff.1 h).1
theorem ChanAt.block (h : ChanAt w c buf closed) (hk : w'.heap[c]? = w.heap[c]?) : ChanAt w' c buf closed := by
  obtain ⟨s, r, h⟩ := h
  exact ⟨s, r, hk.trans h⟩
theorem ChanAt.alloc (h : ChanAt w c buf closed) (o : Obj) : ChanAt (w.alloc o) c buf closed := h.block (Below.heap_alloc w o c h.lt)
theorem ChanAt.below {B : Nat} (h : ChanAt w c buf closed) (hb : Below B w w') (hc : c < B) : ChanAt w' c buf closed := h.block (hb.block c hc)
theorem ChanAt.drew (h : ChanAt w c buf closed) : ChanAt w.drew c buf closed := h
theorem ChanAt.setOther (h : ChanAt w c buf closed) (p : Addr) (hp : p.block ≠ c) (v : Value) : ChanAt (w.setCell p v) c buf closed := h.block (Below.heap_setCell w p v c (fun e => hp e.symm))
end

/-- What recordQueue hands back. -/
def Queued (w : World) (rs : List RD) (e : Ending) (w' : World) : Prop :=
  ∃ c, e = .returned (.chan (some c)) ∧ ChanAt w' c (rs.map recV) false ∧ w.heap.size ≤ c ∧ Below w.heap.size w w'
/-- How far the loop of recordQueue has come. -/
structure QueueIn (w : World) (rs : List RD) (k : Nat) (w' : World) : Prop where
  chan : ChanAt w' w.heap.size ((rs.take k).map recV) false
  below : Below w.heap.size w w'

set_option maxHeartbeats 2000000 in
theorem recordQueue_any (A : Option Addr) (cap : Nat) (rs : List RD) (w : World) (hI : RowAt RK w w.heap.size A rs) (h20 : rs.length ≤ 20) :
    Calls Try.prog 40 #[.slice A rs.length cap] w (Queued w rs) := by
  have HI := Lib.hid hI
  obtain ⟨n, HN⟩ : ∃ n, Hid (rs.length = n) := ⟨_, rfl⟩
  rw [HN.out] at h20 ⊢
  clear hI
  have hmc := mkQueue
  go_enter Try.func40, Try.ntmps40
  go_wp2
  clear hmc
  go_loopw [9] (fun i w' => ∃ k : Nat, k ≤ n ∧ i = .int .i64 k ∧ Hid (QueueIn w rs k w')) (fun i _ => n - (intOf i).toNat)
  case atStart => exact ⟨0, by omega, rfl, (show QueueIn _ _ _ _ from ⟨⟨0, 0, heap_alloc_new w _⟩, (Below.refl _ _).alloc (Nat.le_refl _) _⟩)⟩
  case round =>
    obtain ⟨k, hk, rfl, HQ⟩ := hrel
    by_cases hlt : k < n
    · have hkz : k < rs.length := by rw [HN.out]; exact hlt
      have hwz : w.heap.size < wr.heap.size := HQ.out.chan.lt
      obtain ⟨b, o, rfl⟩ := HI.out.some_ (by omega)
      have hb := (HI.out.lt (by omega)).1
      obtain ⟨c0, c1⟩ := rec_cells (HI.out.below HQ.out.below (Nat.le_refl _)) k hkz
      have HT := Lib.hid (take_rth rs k hkz)
      obtain ⟨ri, HRI⟩ : ∃ x, Hid ((rth rs k).i = x) := ⟨_, rfl⟩
      obtain ⟨rt, HRT⟩ : ∃ x, Hid ((rth rs k).t = x) := ⟨_, rfl⟩
      rw [HRI.out] at c0
      rw [HRT.out] at c1
      have hki : (k : Int) < (n : Int) := by omega
      have HLEN : Hid ((rs.take k).length = k) := by show _ = _; rw [List.length_take]; omega
      clear hkz
      obtain ⟨cs, cr, hch⟩ := HQ.out.chan
      have HCH : Hid ((wr.alloc (.cells #[.int .i64 ri, .string rt] 38)).heap[w.heap.size]? = some (.chan 20 ((rs.take k).map recV).toArray false cs cr false)) := (Below.heap_alloc wr _ _ hwz).trans hch
      have HNEXT : Hid (((rs.take k).map recV).toArray.push (.agg #[.int .i64 ri, .string rt]) = ((rs.take (k + 1)).map recV).toArray) := by
        show _ = _
        rw [HT.out, List.map_append, List.push_toArray]
        simp only [List.map_cons, List.map_nil]
        rw [← HRI.out, ← HRT.out]
      have HBN : Hid (Below w.heap.size w (wr.alloc (.cells #[.int .i64 ri, .string rt] 38))) := HQ.out.below.alloc (by omega) _
      go_upto_region 5 with fail
      refine wp_region_go ?_
      change OpsGo _ _ _ [0, 1, 2] _ _
      refine opsGo_op rfl rfl (fun K hK => ?_); go_simp; refine hK _ _ ?_; clear hK K
      refine opsGo_op rfl rfl (fun K hK => ?_); go_simp; refine hK _ _ ?_; clear hK K
      refine opsGo_send (v := .agg #[.int .i64 ri, .string rt]) (z := .tuple #[]) rfl rfl (by simp [execOp, scase, Act.eval]) HCH.out (by rw [List.size_toArray, List.length_map, HLEN.out]; omega) ?_
      obtain ⟨BF, HBF⟩ : ∃ x, Hid (((rs.take (k + 1)).map recV).toArray = x) := ⟨_, rfl⟩
      rw [HNEXT.out, HBF.out]
      refine opsGo_nil ?_
      have HQ2 : Hid (QueueIn w rs (k + 1) ((wr.alloc (.cells #[.int .i64 ri, .string rt] 38)).setChan w.heap.size 20 BF false (cs + 1) cr false)) := by
        rw [← HBF.out]
        exact ⟨⟨cs + 1, cr, heap_setChan _ _ _ _ _ _ _ _ (by rw [World.size_alloc]; omega)⟩, below_setChan HBN.out (Nat.le_refl _) _ _ _ _ _ _⟩
      go_wp2
      go_roundw
      case rel => exact ⟨k + 1, by omega, by go_num, HQ2⟩
      case measure => simp [intOf]; omega
    · have hkn : k = n := by omega
      subst hkn
      go_wp2
      go_ret
      have hc := HQ.out.chan
      rw [List.take_of_length_le (by rw [HN.out]; exact Nat.le_refl _)] at hc
      exact ⟨w.heap.size, rfl, hc, Nat.le_refl _, HQ.out.below⟩

/-- What offerRecord does where there is room. -/
def Offered (w : World) (c : Nat) (buf : List Value) (e : Ending) (w' : World) : Prop :=
  e = .returned (.bool true) ∧ ChanAt w' c buf false ∧ w.grownBy w' (some c)
theorem grown_setChan {w w' : World} {c : Nat} (h : w.grownBy w' (some c)) (cap : Nat) (buf : Array Value) (cl : Bool) (s r : Nat) (tm : Bool) : w.grownBy (w'.setChan c cap buf cl s r tm) (some c) :=
  ⟨h.os, h.tape, h.output, by rw [size_setChan]; exact h.size, fun i hi hn => (by
    show (w'.heap.setIfInBounds c _)[i]? = _
    rw [Array.getElem?_setIfInBounds_ne (fun e => hn (by rw [e]))]
    exact h.block i hi hn)⟩

set_option maxHeartbeats 2000000 in
theorem offer_yes (c : Nat) (buf : List Value) (r : RD) (w : World) (hc : ChanAt w c buf false) (hl : buf.length < 20) :
    Calls Try.prog 41 #[.chan (some c), recV r] w (Offered w c (buf ++ [recV r])) := by
  obtain ⟨i, t⟩ := r
  obtain ⟨cs, cr, hch⟩ := hc.alloc (.cells #[.int .i64 i, .string t] 38)
  have HCH := Lib.hid hch
  have HLT := Lib.hid hc.lt
  clear hch hc
  go_enter Try.func41, Try.ntmps41
  go_upto_region 3 with fail
  refine wp_region_go ?_
  change OpsGo _ _ _ [0, 1, 2] _ _
  refine opsGo_offer (blocking := false) (v := .agg #[.int .i64 i, .string t]) (z := .agg #[.int .i64 0, .string ByteArray.empty]) rfl rfl (by simp [go_sem, scase]; rfl) HCH.out (by rw [List.size_toArray]; exact hl) ?_
  have HN : Hid (buf.toArray.push (.agg #[.int .i64 i, .string t]) = (buf ++ [recV ⟨i, t⟩]).toArray) := List.push_toArray _ _
  obtain ⟨BF, HBF⟩ : ∃ x, Hid ((buf ++ [recV ⟨i, t⟩]).toArray = x) := ⟨_, rfl⟩
  rw [HN.out, HBF.out]
  simp only [Act.put]
  have HF : Hid (ChanAt ((w.alloc (.cells #[.int .i64 i, .string t] 38)).setChan c 20 BF false (cs + 1) cr false) c (buf ++ [recV ⟨i, t⟩]) false) := ⟨cs + 1, cr, by rw [HBF.out]; exact heap_setChan _ _ _ _ _ _ _ _ (by rw [World.size_alloc]; have := HLT.out; omega)⟩
  have HG : Hid (w.grownBy ((w.alloc (.cells #[.int .i64 i, .string t] 38)).setChan c 20 BF false (cs + 1) cr false) (some c)) := grown_setChan (grown_of_below ((Below.refl _ w).alloc (Nat.le_refl _) _) _) _ _ _ _ _ _
  refine opsGo_op rfl rfl (fun K hK => ?_); go_simp; refine hK _ _ ?_; clear hK K
  refine opsGo_op rfl rfl (fun K hK => ?_); go_simp; refine hK _ _ ?_; clear hK K
  refine opsGo_nil ?_
  go_wp2
  go_ret
  exact ⟨rfl, HF.out, HG.out⟩
set_option maxHeartbeats 2000000 in
theorem offer_no (c : Nat) (buf : List Value) (r : RD) (w : World) (hc : ChanAt w c buf false) (hl : buf.length = 20) :
    Calls Try.prog 41 #[.chan (some c), recV r] w fun e w' => e = .returned (.bool false) ∧ Below w.heap.size w w' := by
  obtain ⟨i, t⟩ := r
  obtain ⟨cs, cr, hch⟩ := hc.alloc (.cells #[.int .i64 i, .string t] 38)
  have HCH := Lib.hid hch
  clear hch hc
  go_enter Try.func41, Try.ntmps41
  go_upto_region 3 with fail
  refine wp_region_go ?_
  change OpsGo _ _ _ [0, 1, 2] _ _
  refine opsGo_full (v := .agg #[.int .i64 i, .string t]) (z := .agg #[.int .i64 0, .string ByteArray.empty]) rfl rfl (by simp [go_sem, scase]; rfl) HCH.out (by rw [List.size_toArray]; omega) ?_
  simp only [Act.put]
  refine opsGo_op rfl rfl (fun K hK => ?_); go_simp; refine hK _ _ ?_; clear hK K
  refine opsGo_op rfl rfl (fun K hK => ?_); go_simp; refine hK _ _ ?_; clear hK K
  refine opsGo_nil ?_
  go_wp2
  go_ret
  exact ⟨rfl, (Below.refl _ _).alloc (Nat.le_refl _) _⟩

/-- What drainRecords hands back. -/
def Drained (w : World) (c : Nat) (rs : List RD) (e : Ending) (w' : World) : Prop :=
  ∃ A cap, e = .returned (.slice A rs.length cap) ∧ OwnRow RK w' w.heap.size A cap rs ∧ w.grownBy w' (some c)
/-- How far the loop of drainRecords has come. -/
structure DrainIn (w : World) (c : Nat) (rs : List RD) (k : Nat) (A : Option Addr) (cap : Nat) (w' : World) : Prop where
  chan : ChanAt w' c ((rs.drop k).map recV) true
  own : OwnRow RK w' w.heap.size A cap (rs.take k)
  grown : w.grownBy w' (some c)
theorem app_info : ∃ i z, Try.prog.info? RK.e = some i ∧ i.zero = some z ∧ i.size = RK.k ∧ i.bytes = RK.by_ ∧ z.cells.size = RK.k := by
  obtain ⟨i, h1, h2, h3, h4⟩ := info_parts rec_info
  exact ⟨i, _, h1, h2, h3, h4, rfl⟩
theorem own_setChan {w : World} {base c cap : Nat} {A : Option Addr} {rs : List RD} (h : OwnRow RK w base A cap rs) (hc : c < base) (buf : Array Value) (cl : Bool) (s r : Nat) : OwnRow RK (w.setChan c 20 buf cl s r false) base A cap rs :=
  h.keep (grown_setChan (World.grownBy.refl w (some c)) _ _ _ _ _ _) (fun k hk => by injection hk with hk; omega)

set_option maxHeartbeats 4000000 in
set_option maxRecDepth 100000 in
theorem drain_any (c : Nat) (rs : List RD) (w : World) (hc : ChanAt w c (rs.map recV) false) (h20 : rs.length ≤ 1000) :
    Calls Try.prog 42 #[.chan (some c)] w (Drained w c rs) := by
  have hlt := hc.lt
  obtain ⟨cs, cr, hch⟩ := hc
  obtain ⟨i0, z0, hi0, hz0, hz1, hz2, hz3⟩ := app_info
  have HI0 := Lib.hid (And.intro hi0 (And.intro hz0 (And.intro hz1 (And.intro hz2 hz3))))
  clear hi0 hz0 hz1 hz2 hz3
  have hcl := fun ats ty => run_close_open (P := Try.prog) (w := w) ats ty hch
  obtain ⟨n, HN⟩ : ∃ n, Hid (rs.length = n) := ⟨_, rfl⟩
  rw [HN.out] at h20
  obtain ⟨BF, HBF⟩ : ∃ x, Hid ((rs.map recV).toArray = x) := ⟨_, rfl⟩
  rw [HBF.out] at hcl
  have HSTART : Hid (DrainIn w c rs 0 (some ⟨w.heap.size, 0, none⟩) 0 (({ w with heap := w.heap.setIfInBounds c (.chan 20 BF true cs cr false) } : World).alloc (.cells #[] 38))) := by
    have hg : w.grownBy (w.setChan c 20 BF true cs cr false) (some c) := grown_setChan (World.grownBy.refl w _) _ _ _ _ _ _
    have hz : (w.setChan c 20 BF true cs cr false).heap.size = w.heap.size := size_setChan _ _ _ _ _ _ _ _
    refine ⟨ChanAt.alloc (w := w.setChan c 20 BF true cs cr false) ⟨cs, cr, ?_⟩ _, ?_, World.grownBy.trans hg (grown_of_below ((Below.refl _ _).alloc (Nat.le_refl _) _) _)⟩
    · rw [List.drop_zero, HBF.out]; exact heap_setChan _ _ _ _ _ _ _ _ hlt
    · have := OwnRow.new RK (w.setChan c 20 BF true cs cr false)
      rw [hz] at this
      exact this
  clear hch
  go_enter Try.func42, Try.ntmps42
  go_wp2
  clear hcl
  go_loopw [3] (fun v w' => ∃ (k cap : Nat) (A : Option Addr), k ≤ n ∧ v = .slice A k cap ∧ Hid (DrainIn w c rs k A cap w')) (fun v _ => n - (match v with | .slice _ k _ => k | _ => 0))
  case atStart => exact ⟨0, 0, _, by omega, rfl, HSTART⟩
  case round =>
    obtain ⟨k, cap, A, hk, rfl, HD⟩ := hrel
    have hcw : c < wr.heap.size := HD.out.chan.lt
    have hww : w.heap.size ≤ wr.heap.size := HD.out.grown.size
    obtain ⟨s, r, hch⟩ := HD.out.chan
    by_cases hkn : k < n
    · have hkz : k < rs.length := by rw [HN.out]; exact hkn
      have hdrop : rs.drop k = rth rs k :: rs.drop (k + 1) := by rw [List.drop_eq_getElem_cons hkz, rth_eq rs k hkz]
      have HT := Lib.hid (take_rth rs k hkz)
      have HLEN : Hid ((rs.take k).length = k) := by show _ = _; rw [List.length_take]; omega
      rw [hdrop, List.map_cons] at hch
      obtain ⟨ri, HRI⟩ : ∃ x, Hid ((rth rs k).i = x) := ⟨_, rfl⟩
      obtain ⟨rt, HRT⟩ : ∃ x, Hid ((rth rs k).t = x) := ⟨_, rfl⟩
      have HV : recV (rth rs k) = .agg #[.int .i64 ri, .string rt] := by
        show Value.agg #[.int .i64 (rth rs k).i, .string (rth rs k).t] = _
        rw [HRI.out, HRT.out]
      rw [HV] at hch
      obtain ⟨TL, HTL⟩ : ∃ x, Hid ((rs.drop (k + 1)).map recV = x) := ⟨_, rfl⟩
      rw [HTL.out] at hch
      have HCH := Lib.hid hch
      have HONE : Hid (rth rs k = ⟨ri, rt⟩) := by
        show _ = _
        rw [← HRI.out, ← HRT.out]
      have HEX : Hid ((.agg #[.int .i64 ri, .string rt] :: TL : List Value).toArray.extract 1 (.agg #[.int .i64 ri, .string rt] :: TL : List Value).toArray.size = TL.toArray) := by
        show _ = _
        simp
      obtain ⟨TA, HTA⟩ : ∃ x, Hid (TL.toArray = x) := ⟨_, rfl⟩
      have HCN : Hid (ChanAt (wr.setChan c 20 TA true s (r + 1) false) c ((rs.drop (k + 1)).map recV) true) := ⟨s, r + 1, by rw [HTL.out, HTA.out]; exact heap_setChan _ _ _ _ _ _ _ _ hcw⟩
      have HON : Hid (OwnRow RK (wr.setChan c 20 TA true s (r + 1) false) w.heap.size A cap (rs.take k)) := own_setChan HD.out.own hlt _ _ _ _
      have HGN : Hid (w.grownBy (wr.setChan c 20 TA true s (r + 1) false) (some c)) := grown_setChan HD.out.grown _ _ _ _ _ _
      clear hch hdrop hkz HV
      go_upto_region 4 with fail
      refine wp_region_go ?_
      change OpsGo _ _ _ [0, 1] _ _
      refine opsGo_recv true (z := .agg #[.int .i64 0, .string ByteArray.empty]) rfl rfl (by simp [go_sem, rcase]; rfl) HCH.out (by simp) ?_
      rw [HEX.out, HTA.out]
      rw [show got true ((.agg #[.int .i64 ri, .string rt] :: TL : List Value).toArray.getD 0 undef) true = .tuple #[.agg #[.int .i64 ri, .string rt], .bool true] from rfl]
      change OpsGo _ _ _ _ (Act.put _ (some 8) _) _
      simp only [Act.put, List.setIfInBounds_toArray, List.set_cons_zero, List.set_cons_succ]
      refine opsGo_op rfl rfl (fun K hK => ?_); go_simp; refine hK _ _ ?_; clear hK K
      refine opsGo_nil ?_
      obtain ⟨V, HV⟩ : ∃ x, Hid (wr.setChan c 20 TA true s (r + 1) false = x) := ⟨_, rfl⟩
      rw [HV.out] at HCN HON HGN
      rw [HV.out]
      have hVz : w.heap.size ≤ V.heap.size := HGN.out.size
      go_wp2_with (at_builtin; refine wpList_app_row (K := RK) Try.underlying27 HI0.out.1 HI0.out.2.1 HI0.out.2.2.1 HI0.out.2.2.2.1 HI0.out.2.2.2.2 (by decide) rfl (.tmp 11) (.tmp 13) rfl _ w.heap.size A cap (rs.take k) (by rw [HLEN.out]; rfl) _ _ [(⟨ri, rt⟩ : RD)] rfl ((HON.out.alloc _).alloc _) (one_newG RK (V.alloc (.cells #[.int .i64 ri, .string rt] 38)) ⟨ri, rt⟩ _ (by simp)) (by rw [HLEN.out]; simp; omega) (by simp; omega) (by simp) ?_; intro v w4 hA)
      obtain ⟨A4, c4, rfl, ho4⟩ := hA.own
      have hlen : (rs.take k ++ [(⟨ri, rt⟩ : RD)]).length = k + 1 := by rw [List.length_append, HLEN.out]; rfl
      have HTK : Hid (rs.take k ++ [(⟨ri, rt⟩ : RD)] = rs.take (k + 1)) := by
        show _ = _
        rw [HT.out, HONE.out]
      have HB4 : Hid (Below w.heap.size V w4) := by
        have h := hA.below
        have h0 : Below w.heap.size V ((V.alloc (.cells #[.int .i64 ri, .string rt] 38)).alloc (.cells #[.int .i64 ri, .string rt] 38)) := ((Below.refl _ V).alloc hVz _).alloc (by rw [World.size_alloc]; omega) _
        exact h0.trans h
      have HD4 : Hid (DrainIn w c rs (k + 1) A4 c4 w4) := by
        refine ⟨HCN.out.below HB4.out hlt, ?_, ?_⟩
        · rw [HTK.out] at ho4; exact ho4
        · exact ⟨HB4.out.os.trans HGN.out.os, HB4.out.tape.trans HGN.out.tape, HB4.out.output.trans HGN.out.output, Nat.le_trans HGN.out.size HB4.out.size, fun i hi hn => (HB4.out.block i hi).trans (HGN.out.block i hi hn)⟩
      rw [hlen]
      clear hA ho4 hlen
      go_wp2
      go_roundw
      case rel => exact ⟨k + 1, c4, A4, by omega, rfl, HD4⟩
      case measure => simp; omega
    · have hkk : k = n := by omega
      subst hkk
      rw [List.drop_eq_nil_of_le (by rw [HN.out]; exact Nat.le_refl _)] at hch
      have HCH : Hid (wr.heap[c]? = some (.chan 20 #[] true s r false)) := hch
      clear hch
      go_upto_region 4 with fail
      refine wp_region_go ?_
      change OpsGo _ _ _ [0, 1] _ _
      refine opsGo_shut true (z := .agg #[.int .i64 0, .string ByteArray.empty]) rfl rfl (by simp [go_sem, rcase]; rfl) HCH.out ?_
      rw [show got true (Value.agg #[.int .i64 0, .string ByteArray.empty]) false = .tuple #[.agg #[.int .i64 0, .string ByteArray.empty], .bool false] from rfl]
      change OpsGo _ _ _ _ (Act.put _ (some 8) _) _
      simp only [Act.put, List.setIfInBounds_toArray, List.set_cons_zero, List.set_cons_succ]
      refine opsGo_op rfl rfl (fun K hK => ?_); go_simp; refine hK _ _ ?_; clear hK K
      refine opsGo_nil ?_
      go_wp2
      go_ret
      have ho := HD.out.own
      rw [List.take_of_length_le (by rw [HN.out]; exact Nat.le_refl _)] at ho
      exact ⟨A, cap, by rw [HN.out]; rfl, ho, HD.out.grown⟩

end Go.Proofs.Ytmddfjfflgfdlaa
