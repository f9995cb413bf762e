/- Communication in a walk: a region one of whose operations is a send, a receive or a select that need not wait, in one goroutine. Conditions: as each statement says. -/
import Derived.Conc.LoneCalls
import Derived.Conc.LoneSelectN
import Derived.Tactics
import Derived.Below
namespace Go.Proofs.Ytmddfjfflgfdlaa
open Go.RowKit Go.Conc
set_option linter.unusedVariables false

/-- From here on a region's operations, by the machine's steps, come to an exit. -/
def OpsGo (P : Program) (ops : Array Oper) (Q : Exit → Act → World → Prop) (l : List Nat) (a : Act) (w : World) : Prop :=
  ∀ (b : Frame) (k : List Item) (cs : List Frame), ∃ e a' w', Q e a' w' ∧ Arrives P (lone (b.at a (.inRegion ops l :: k)) cs w) b k cs e a' w'

section
variable {P : Program} {ops : Array Oper} {Q : Exit → Act → World → Prop} {a : Act} {w : World} {i : Nat} {rest : List Nat} {o : Oper}
theorem opsGo_nil (h : Q .normal a w) : OpsGo P ops Q [] a w := fun b k cs => ⟨.normal, a, w, h, .one step_region_end⟩
/-- An operation that yields a value, calls or panics, as in the lone walk. -/
theorem opsGo_op (ho : ops[i]? = some o) (hw : Region.wanted o (yielded ops a.tmps) = true)
    (h : ∀ K : Act → World → Prop, (∀ a w, OpsGo P ops Q rest a w → K a w) → o.wp P a w K Q) : OpsGo P ops Q (i :: rest) a w := by
  intro b k cs
  have h0 := h _ (fun _ _ x => x)
  simp only [Oper.wp, Oper.upon] at h0
  have hg := stepG_op (P := P) (b := b) (k := k) (cs := cs) (w := w) (rest := rest) ho hw
  have hfin : ∀ v, (b.at a (.inRegion ops (i :: rest) :: k)).finish v = b.at (a.put o.dst v) (.inRegion ops rest :: k) := by
    intro v; rw [Frame.finish_at, ho]; rfl
  split at h0
  · rename_i v w' hr
    obtain ⟨e, a', w'', hq, harr⟩ := h0 b k cs
    refine ⟨e, a', w'', hq, .of_steps (.one (step_lone_go ?_)) harr⟩
    rw [hg, ← hfin]; simp [stepG.apply, hr]
  · rename_i w' hr
    obtain ⟨e, a', w'', hq, harr⟩ := h0 b k cs
    refine ⟨e, a', w'', hq, .of_steps (.one (step_lone_go ?_)) harr⟩
    rw [hg, ← hfin]; simp [stepG.apply, hr]
  · rename_i d w' hr
    obtain ⟨e, a', w'', hq, harr⟩ := h0 b k cs
    refine ⟨e, a', w'', hq, .of_steps (.one (step_lone_go ?_)) harr⟩
    have : ({ b.at a (.inRegion ops (i :: rest) :: k) with defers := d :: a.defers } : Frame).finish undef =
        b.at ({ a with defers := d :: a.defers }.put o.dst undef) (.inRegion ops rest :: k) := by
      have := Frame.finish_at b { a with defers := d :: a.defers } ops i rest k undef
      rw [ho] at this; exact this
    rw [hg]; simp only [stepG.apply, Sem.runT_eq, hr, GStep.bare_after]
    exact congrArg (fun fr => GStep.go { frame := fr, callers := cs, status := .running, dying := none } w') this
  · rename_i f args w' hr
    obtain ⟨e, w'', fr, hR, hsteps, _, hleave⟩ := h0 (b.at a (.inRegion ops (i :: rest) :: k) :: cs)
    have henter : step P (lone (b.at a (.inRegion ops (i :: rest) :: k)) cs w) =
        .next (lone (Frame.enter P f args .normal) (b.at a (.inRegion ops (i :: rest) :: k) :: cs) w') :=
      step_lone_go (by rw [hg]; simp [stepG.apply, hr, Frame.at])
    cases e with
    | returned v =>
      obtain ⟨e, a', w₃, hq, harr⟩ := hR b k cs
      refine ⟨e, a', w₃, hq, .of_steps (.head henter (hsteps.trans (.one ?_))) harr⟩
      rw [← hfin]; exact step_leave_returned hleave
    | panicked chain =>
      refine ⟨.panic chain, a, w'', hR, .inRegion ops (i :: rest) :: k, .head henter (hsteps.trans (.one ?_))⟩
      rw [← Frame.raise_at]; exact step_leave_panicked hleave
    | outgrown =>
      obtain ⟨a₀, w₀, hq⟩ := hR
      exact ⟨.outgrown, a₀, w₀, hq, .inr (Outgrown.of_steps (.one henter) hsteps)⟩
  · rename_i row args w' hr
    obtain ⟨v, w'', hR, hsteps⟩ := h0 (b.at a (.inRegion ops (i :: rest) :: k)) cs
    have henter : step P (lone (b.at a (.inRegion ops (i :: rest) :: k)) cs w) =
        .next (lone (Frame.ofRow P row args .normal) (b.at a (.inRegion ops (i :: rest) :: k) :: cs) w') :=
      step_lone_go (by rw [hg]; simp [stepG.apply, hr, Frame.at])
    obtain ⟨e, a', w₃, hq, harr⟩ := hR b k cs
    refine ⟨e, a', w₃, hq, .of_steps (.head henter ?_) harr⟩
    rw [← hfin]; exact hsteps
  · rename_i v w' hr
    refine ⟨_, a, w', h0, .inRegion ops (i :: rest) :: k, .one (step_lone_go ?_)⟩
    rw [hg, ← Frame.raise_at]; simp [stepG.apply, hr]
  · exact h0.elim
/-- A communication is handed up to the machine. -/
theorem comm_up {b : Frame} {k : List Item} {cs : List Frame} {cases : Array CommCase} {blocking : Bool} {shape : CommShape} {w' : World} (ho : ops[i]? = some o) (hw : Region.wanted o (yielded ops a.tmps) = true)
    (hr : (execOp a.eval o).run P w = .ok (.comm cases blocking shape) w') :
    ∃ es, stepG P true (G (b.at a (.inRegion ops (i :: rest) :: k)) cs) w = .comm (G (b.at a (.inRegion ops (i :: rest) :: k)) cs) cases blocking shape w' es := by
  by_cases hk : (b.kind == CallKind.early) = true
  · refine ⟨seen P b.fn #[], ?_⟩
    rw [stepG_oper ho hw]
    simp [stepG.apply, hr, G, Frame.at, hk, GStep.after]
  · have hk' : (b.kind == CallKind.early) = false := by simpa using hk
    refine ⟨_, stepG_comm ho hw (by simpa using hk') hr⟩
/-- One step of the machine that ends the operation. -/
theorem opsGo_step {v : Value} {w' : World} (ho : ops[i]? = some o)
    (hs : ∀ (b : Frame) (k : List Item) (cs : List Frame), step P (solo (G (b.at a (.inRegion ops (i :: rest) :: k)) cs) w) = .next (solo (G ((b.at a (.inRegion ops (i :: rest) :: k)).finish v) cs) w'))
    (h : OpsGo P ops Q rest (a.put o.dst v) w') : OpsGo P ops Q (i :: rest) a w := by
  intro b k cs
  obtain ⟨e, a', w'', hq, harr⟩ := h b k cs
  refine ⟨e, a', w'', hq, .of_steps (.one ?_) harr⟩
  have h1 := hs b k cs
  rw [Frame.finish_at, ho] at h1
  exact h1
theorem opsGo_send {c cap s r : Nat} {buf : Array Value} {v z : Value} {tm : Bool} (ho : ops[i]? = some o) (hw : Region.wanted o (yielded ops a.tmps) = true)
    (hr : (execOp a.eval o).run P w = .ok (.comm #[scase c v z] true .send) w) (hc : w.heap[c]? = some (.chan cap buf false s r tm)) (hroom : buf.size < cap)
    (h : OpsGo P ops Q rest (a.put o.dst undef) (w.setChan c cap (buf.push v) false (s + 1) r tm)) : OpsGo P ops Q (i :: rest) a w := by
  refine opsGo_step ho (fun b k cs => ?_) h
  obtain ⟨es, he⟩ := comm_up (P := P) (b := b) (k := k) (cs := cs) (rest := rest) ho hw hr
  exact step_lone_send_room he hc hroom
theorem opsGo_recv {c cap s r : Nat} {buf : Array Value} {z : Value} {tm closed : Bool} (ok : Bool) (ho : ops[i]? = some o) (hw : Region.wanted o (yielded ops a.tmps) = true)
    (hr : (execOp a.eval o).run P w = .ok (.comm #[rcase c z] true (.recv ok)) w) (hc : w.heap[c]? = some (.chan cap buf closed s r tm)) (hsome : 0 < buf.size)
    (h : OpsGo P ops Q rest (a.put o.dst (got ok (buf.getD 0 undef) true)) (w.setChan c cap (buf.extract 1 buf.size) closed s (r + 1) tm)) : OpsGo P ops Q (i :: rest) a w := by
  refine opsGo_step ho (fun b k cs => ?_) h
  obtain ⟨es, he⟩ := comm_up (P := P) (b := b) (k := k) (cs := cs) (rest := rest) ho hw hr
  exact step_lone_recv_buf ok he hc hsome
theorem opsGo_shut {c cap s r : Nat} {z : Value} {tm : Bool} (ok : Bool) (ho : ops[i]? = some o) (hw : Region.wanted o (yielded ops a.tmps) = true)
    (hr : (execOp a.eval o).run P w = .ok (.comm #[rcase c z] true (.recv ok)) w) (hc : w.heap[c]? = some (.chan cap #[] true s r tm))
    (h : OpsGo P ops Q rest (a.put o.dst (got ok z false)) w) : OpsGo P ops Q (i :: rest) a w := by
  refine opsGo_step ho (fun b k cs => ?_) h
  obtain ⟨es, he⟩ := comm_up (P := P) (b := b) (k := k) (cs := cs) (rest := rest) ho hw hr
  exact step_lone_recv_shut ok he hc
/-- A select of one send with a default: there is room. -/
theorem opsGo_offer {c cap s r : Nat} {buf : Array Value} {v z : Value} {tm blocking : Bool} (ho : ops[i]? = some o) (hw : Region.wanted o (yielded ops a.tmps) = true)
    (hr : (execOp a.eval o).run P w = .ok (.comm #[scase c v z] blocking .select) w) (hc : w.heap[c]? = some (.chan cap buf false s r tm)) (hroom : buf.size < cap)
    (h : OpsGo P ops Q rest (a.put o.dst (.tuple #[goInt 0, .bool false])) (w.setChan c cap (buf.push v) false (s + 1) r tm)) : OpsGo P ops Q (i :: rest) a w := by
  refine opsGo_step ho (fun b k cs => ?_) h
  obtain ⟨es, he⟩ := comm_up (P := P) (b := b) (k := k) (cs := cs) (rest := rest) ho hw hr
  have := step_lone_sel_send_room (k := 0) he rfl (fun m c' hm hc' => by
    rcases m with _ | m
    · exact absurd rfl hm
    · simp at hc') hc hroom
  rw [show commResult #[scase c v z] .select ((0 : Nat) : Int) undef false = .tuple #[goInt 0, .bool false] by simp [commResult, scase]] at this
  exact this
/-- .. it is full: the default. -/
theorem opsGo_full {c cap s r : Nat} {buf : Array Value} {v z : Value} {tm : Bool} (ho : ops[i]? = some o) (hw : Region.wanted o (yielded ops a.tmps) = true)
    (hr : (execOp a.eval o).run P w = .ok (.comm #[scase c v z] false .select) w) (hc : w.heap[c]? = some (.chan cap buf false s r tm)) (hfull : cap ≤ buf.size)
    (h : OpsGo P ops Q rest (a.put o.dst (.tuple #[goInt (-1), .bool false])) w) : OpsGo P ops Q (i :: rest) a w := by
  refine opsGo_step ho (fun b k cs => ?_) h
  obtain ⟨es, he⟩ := comm_up (P := P) (b := b) (k := k) (cs := cs) (rest := rest) ho hw hr
  have := step_lone_sel_default he (fun cc hcc => by
    simp only [List.mem_toArray, List.mem_singleton] at hcc
    subst hcc
    exact noWay_send hc hfull)
  rw [show commResult #[scase c v z] .select (-1) undef false = .tuple #[goInt (-1), .bool false] by simp [commResult, scase]] at this
  exact this
theorem wp_region_go {id : Nat} {l : List Oper} (h : OpsGo P l.toArray Q (List.range l.length) a w) : (Code.region id l.toArray false).wp P Q a w :=
  fun b k cs => let ⟨e, a', w', q, r⟩ := h b k cs; ⟨e, a', w', q, .of_steps (.one (by have := step_region (P := P) (b := b) (a := a) (k := k) (cs := cs) (w := w) (ops := l.toArray) (id := id); rwa [List.size_toArray] at this)) r⟩
end

end Go.Proofs.Ytmddfjfflgfdlaa
