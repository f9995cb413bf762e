/- FnExactForkMeet returns true at every two feeds and changes no argument. Conditions: none. -/
import Derived.Test.YtpcjlilfcpfmcaaRows
import Derived.Test.YtpcjlilfcpfmcaaWalkExactForkMeet
import Derived.Test.YtpcjlilfcpfmcaaOpenFeed
import Derived.WalkKit
import Derived.ProofKit
import Derived.OpenShut
import Derived.ShutString
import Derived.ChangeOld
import Derived.Below
import Derived.Lib.SmallJoins
namespace Go.Proofs.Ytpcjlilfcpfmcaa.fnExactForkMeet
open Go.ChangeShapes Go.WideShapes Go.ChangeAt Go.RowKit Go.Joins
open Go.ChangeMaps (open_string shut_string)
set_option linter.unusedVariables false

theorem own : ownKnob Try.prog.godebug = none := by kernel_rfl
theorem laidOut : laidOutB Try.prog = true := by kernel_rfl

theorem walk (x0p x0l x0d x0s : Int) (x0A : Option Addr) (x0c : Nat) (x0B : Option Addr) (x0e : Nat) (x0bs : List ByteArray) (x0hs : List Bool) (x1p x1l x1d x1s : Int) (x1A : Option Addr) (x1c : Nat) (x1B : Option Addr) (x1e : Nat) (x1bs : List ByteArray) (x1hs : List Bool) (w : World) (x0h : FeedAt w w.heap.size x0A x0B x0bs x0hs) (x1h : FeedAt w w.heap.size x1A x1B x1bs x1hs) :
    Calls Try.prog 8 #[feedV x0p x0l x0d x0s x0A x0bs.length x0c x0B x0hs.length x0e, feedV x1p x1l x1d x1s x1A x1bs.length x1c x1B x1hs.length x1e] w fun e w' => e = .returned (.bool true) ∧ Below w.heap.size w w' :=
  walkExactForkMeet x0p x0l x0d x0s x0A x0c x0B x0e x0bs x0hs x1p x1l x1d x1s x1A x1c x1B x1e x1bs x1hs w x0h x1h

set_option maxRecDepth 100000 in
theorem lifted (os : Os) (started : os.Started) (H : Type) (enc : TypeId × Value → H) :
    ReturnsInHanded {} Try.checked os 8 .any (Rows.fnExactForkMeetSpec.pre6 enc Try.prog Try.f8 Rows.fnExactForkMeetRow.domain false) (Rows.fnExactForkMeetSpec.post enc Try.prog Try.f8 false true false false) := by
  refine returnsInHanded_of_change (C := Try.checked) own started (by kernel_rfl) Try.func8
    (ChangeSpec.witness6 (enc := enc) (C := Try.checked) false ⟨#[], #[.agg #[.int .i64 0, .int .i64 0, .int .i64 0, .int .i64 0, .slice none 0 0, .slice none 0 0], .agg #[.int .i64 0, .int .i64 0, .int .i64 0, .int .i64 0, .slice none 0 0, .slice none 0 0]], []⟩ 8 (by kernel_rfl) (by kernel_rfl) (by kernel_rfl) (by kernel_rfl)) ?_
  intro W base args ds gs before hval0 hW hcnd _
  have hval : ∀ (j : Nat) t v, Try.f8.params[j]? = some t → args[j]? = some v → Value.okWide Try.prog W .any base t v := hval0
  have hW' := hW
  obtain ⟨p, q, hA0, hV, rfl, hfz, hnd⟩ := hW
  have hA : DataW.TrodAll enc Try.prog W 0 (fun _ => true) true Try.f8.params.toList args.toList ds p := hA0
  rw [Try.params8] at hA hval
  obtain ⟨v0, vs0, d0, ds0, p0, q0, hargs, rfl, rfl, h0, r0⟩ := trodAll_cons hA
  obtain ⟨v1, vs1, d1, ds1, p1, q1, rfl, rfl, rfl, h1, r1⟩ := trodAll_cons r0
  obtain ⟨rfl, rfl, rfl⟩ := trodAll_nil r1
  obtain rfl : args = #[v0, v1] := by cases args; simp_all
  obtain ⟨rfl, rfl⟩ := trodVars_none hV
  have k0 := h0
  have lt0 : ∀ x ∈ p0, x.block < W.heap.size := by obtain ⟨m, hm⟩ := k0; exact DataW.trod_lt m _ _ _ hm
  obtain ⟨x0p, x0l, x0d, x0s, x0A, x0c, x0B, x0e, x0bs, x0hs, rfl, x0h⟩ := open_feed (hval 0 46 v0 rfl rfl) h0
  have k1 := h1
  have lt1 : ∀ x ∈ p1, x.block < W.heap.size := by obtain ⟨m, hm⟩ := k1; exact DataW.trod_lt m _ _ _ hm
  obtain ⟨x1p, x1l, x1d, x1s, x1A, x1c, x1B, x1e, x1bs, x1hs, rfl, x1h⟩ := open_feed (hval 1 46 v1 rfl rfl) h1
  clear hA0 hval0
  refine (walk x0p x0l x0d x0s x0A x0c x0B x0e x0bs x0hs x1p x1l x1d x1s x1A x1c x1B x1e x1bs x1hs W x0h x1h).mono fun e W' ⟨he, bel⟩ => ?_
  subst he
  exact ⟨_, rfl, _, _, _, [], _, [], hW', trodAll_mk1 (shut_bool Try.underlying4 _), (trodAll_cons_mk (Below.trod laidOut (by kernel_rfl) (of_decide_eq_true (by kernel_rfl)) k0 bel lt0) (trodAll_cons_mk (Below.trod laidOut (by kernel_rfl) (of_decide_eq_true (by kernel_rfl)) k1 bel lt1) trodAll_mk0)), rfl, bel.frame _, fun h => by cases h⟩

theorem over : Rows.fnExactForkMeetRow.holds Try.pinned (OpenSpec.ofChange Rows.fnExactForkMeetSpec) :=
  OpenClaim.holds_of_wide 8 Try.f8 rfl rfl rfl rfl rfl rfl rfl ⟨rfl, rfl, rfl, rfl, rfl⟩ rfl rfl rfl rfl rfl (by kernel_rfl) Try.func8 (by kernel_rfl)
    (of_decide_eq_true (by kernel_rfl)) (by unfold Func.isWrapper; first | (rw [if_pos (by decide +kernel)]; kernel_rfl) | (rw [if_neg (by decide +kernel)]; exact ⟨rfl, rfl⟩))
    (fun os started H enc _ => lifted os started H enc)

theorem proved : Rows.FnExactForkMeetSaid := over
#print axioms proved
end Go.Proofs.Ytpcjlilfcpfmcaa.fnExactForkMeet
