/- FnExactFeedHead returns true at every feed, head and list and changes no argument. Condition: the package errors are as the program lays them (tied). -/
import Derived.Test.YtlpdoieiiadhhaaDoorRows
import Derived.Test.YtlpdoieiiadhhaaDoorCards
import Derived.Test.YtlpdoieiiadhhaaDoorTie
import Derived.Test.YtlpdoieiiadhhaaDoorWalkExactFeedHead
import Derived.Test.YtlpdoieiiadhhaaDoorLaidE
import Derived.Test.YtlpdoieiiadhhaaDoorOpenFeed
import Derived.Test.YtlpdoieiiadhhaaDoorOpenInts
import Derived.WalkKit
import Derived.ProofKit
import Derived.OpenShut
import Derived.ShutString
import Derived.ChangeOld
import Derived.Below
import Derived.Lib.SmallJoins
import Derived.LaidMore
import Derived.Stop.Joined
import Derived.SevenTiedAt
namespace Go.Proofs.YtlpdoieiiadhhaaDoor.fnExactFeedHead
open Go.ChangeShapes Go.WideShapes Go.ChangeAt Go.RowKit Go.Joins
open Go.ChangeMaps (open_string shut_string)
set_option linter.unusedVariables false

theorem own : ownKnob Tryd.prog.godebug = none := by kernel_rfl
theorem laidOut : laidOutB Tryd.prog = true := by kernel_rfl

theorem walk (x0p x0l x0d x0s : Int) (x0A : Option Addr) (x0c : Nat) (x0B : Option Addr) (x0e : Nat) (x0bs : List ByteArray) (x0hs : List Bool) (x1l x1d x1s : Int) (x2A : Option Addr) (x2c : Nat) (x2zs : List Int) (w : World) (x0h : FeedAt w w.heap.size x0A x0B x0bs x0hs) (x1h : (Lit.int .i64 x1l).wf = true ∧ (Lit.int .i64 x1d).wf = true ∧ (Lit.int .i64 x1s).wf = true) (x2h : GrowthAt w x2A x2c x2zs) (hT : ErrsIn w) :
    Calls Tryd.prog 9 #[feedV x0p x0l x0d x0s x0A x0bs.length x0c x0B x0hs.length x0e, .agg #[.int .i64 x1l, .int .i64 x1d, .int .i64 x1s], .slice x2A x2zs.length x2c] w fun e w' => e = .returned (.bool true) ∧ Below w.heap.size w w' :=
  match hT with | ⟨_, _, _, _, hE, _⟩ => walkExactFeedHead x0p x0l x0d x0s x0A x0c x0B x0e x0bs x0hs x1l x1d x1s x2A x2c x2zs w hE x0h x2h

set_option maxRecDepth 100000 in
theorem lifted (os : Os) (started : os.Started) (H : Type) (enc : TypeId × Value → H) :
    ReturnsInHanded {} Tryd.checked os 9 .any (fun w args => (Rows.fnExactFeedHeadSpec.pre enc Tryd.prog Tryd.f9 [] false w args ∧ laidMetH Tryd.prog laid2 w) ∧ sizedMet enc Tryd.prog Tryd.f9 (OpenSpec.ofChange Rows.fnExactFeedHeadSpec) false w args) (Rows.fnExactFeedHeadSpec.post enc Tryd.prog Tryd.f9 false true false false) := by
  refine returnsInHanded_of_change_and (C := Tryd.checked) (X := fun w _ => laidMetH Tryd.prog laid2 w) (fun _ _ _ hh h => h.of_heap hh) own started (by kernel_rfl) Tryd.func9
    (ChangeSpec.witness_shaped (enc := enc) (C := Tryd.checked) (os := os) (X := fun w _ => laidMetH Tryd.prog laid2 w) false (World.doorLaid Tryd.prog 400 os) #[.agg #[.int .i64 0, .int .i64 0, .int .i64 0, .int .i64 0, .slice none 0 0, .slice none 0 0], .agg #[.int .i64 0, .int .i64 0, .int .i64 0], .slice none 0 0] 8 rfl (World.shaped_of_RefB (by kernel_rfl) (by kernel_rfl)) (by kernel_rfl) (by kernel_rfl) (by kernel_rfl) (door_met os _)) ?_
  intro W base args ds gs before hval0 hW _ _ hL _
  have hval : ∀ (j : Nat) t v, Tryd.f9.params[j]? = some t → args[j]? = some v → Value.okWide Tryd.prog W .any base t v := hval0
  have hW' := hW
  obtain ⟨p, q, hA0, hV, rfl, hfz, hnd⟩ := hW
  have hA : DataW.TrodAll enc Tryd.prog W 0 (fun _ => true) true Tryd.f9.params.toList args.toList ds p := hA0
  rw [Tryd.params9] at hA hval
  obtain ⟨v0, vs0, d0, ds0, p0, q0, hargs, rfl, rfl, h0, r0⟩ := trodAll_cons hA
  obtain ⟨v1, vs1, d1, ds1, p1, q1, rfl, rfl, rfl, h1, r1⟩ := trodAll_cons r0
  obtain ⟨v2, vs2, d2, ds2, p2, q2, rfl, rfl, rfl, h2, r2⟩ := trodAll_cons r1
  obtain ⟨rfl, rfl, rfl⟩ := trodAll_nil r2
  obtain rfl : args = #[v0, v1, v2] := by cases args; simp_all
  obtain ⟨r0, r1, r2, r3, hErr, hVar⟩ := errs_of_laid hL
  have hV4 : DataW.TrodVars enc Tryd.prog W (fun _ => true) errNames gs q := hV
  obtain ⟨rfl, rfl⟩ := hV4.unique (vars_read4 enc hVar _)
  clear hV
  have k0 := h0
  have lt0 : ∀ x ∈ p0, x.block < W.heap.size := by obtain ⟨m, hm⟩ := k0; exact DataW.trod_lt m _ _ _ hm
  obtain ⟨x0p, x0l, x0d, x0s, x0A, x0c, x0B, x0e, x0bs, x0hs, rfl, x0h⟩ := open_feed (hval 0 45 v0 rfl rfl) h0
  have k1 := h1
  have lt1 : ∀ x ∈ p1, x.block < W.heap.size := by obtain ⟨m, hm⟩ := k1; exact DataW.trod_lt m _ _ _ hm
  obtain ⟨x1l, x1d, x1s, rfl, x1h⟩ := open_headV (hval 1 43 v1 rfl rfl) h1
  have k2 := h2
  have lt2 : ∀ x ∈ p2, x.block < W.heap.size := by obtain ⟨m, hm⟩ := k2; exact DataW.trod_lt m _ _ _ hm
  obtain ⟨x2A, x2c, x2zs, rfl, x2h⟩ := open_intsV (hval 2 29 v2 rfl rfl) h2
  clear hA0 hval0
  refine (walk x0p x0l x0d x0s x0A x0c x0B x0e x0bs x0hs x1l x1d x1s x2A x2c x2zs W x0h x1h x2h (errs_of_laid hL)).mono fun e W' ⟨he, bel⟩ => ?_
  subst he
  exact ⟨_, rfl, _, _, _, [], _, errPlaces, hW', trodAll_mk1 (shut_bool Tryd.underlying4 _), (trodAll_cons_mk (Below.trod laidOut (by kernel_rfl) (of_decide_eq_true (by kernel_rfl)) k0 bel lt0) (trodAll_cons_mk (Below.trod laidOut (by kernel_rfl) (of_decide_eq_true (by kernel_rfl)) k1 bel lt1) (trodAll_cons_mk (Below.trod laidOut (by kernel_rfl) (of_decide_eq_true (by kernel_rfl)) k2 bel lt2) trodAll_mk0))), vars_read4 enc (hVar.below bel) _, bel.frame _, fun h => by cases h⟩

theorem over : Rows.fnExactFeedHeadRow.holds Tryd.pinned (OpenSpec.ofChange Rows.fnExactFeedHeadSpec) :=
  OpenClaim.holds_of_wide 9 Tryd.f9 rfl rfl rfl rfl rfl rfl rfl ⟨rfl, rfl, rfl, rfl, rfl⟩ rfl rfl rfl rfl rfl (by kernel_rfl) Tryd.func9 (by kernel_rfl)
    (of_decide_eq_true (by kernel_rfl)) (by unfold Func.isWrapper; first | (rw [if_pos (by decide +kernel)]; kernel_rfl) | (rw [if_neg (by decide +kernel)]; exact ⟨rfl, rfl⟩))
    (fun os started H enc _ => lifted os started H enc)

theorem proved : Rows.FnExactFeedHeadCardSaid :=
  Claim7.holds_tied_plain_at .later [] [.sentinel, .sentinel, .sentinel, .sentinel] true Rows.fnExactFeedHeadCard.stood.harness true
    over (fun _ h => by cases h) (by kernel_rfl) (fun _ h => by cases h) fnExactFeedHead_row_tie rfl ⟨rfl, rfl⟩ (by kernel_rfl) rfl
    (fun f fn hf hfn => by
      obtain rfl : f = 9 := Option.some.inj ((show Tryd.prog.funcNamed Rows.fnExactFeedHeadRow.func = some 9 by kernel_rfl).symm.trans hf) |>.symm
      obtain rfl : fn = Tryd.f9 := (Option.some.inj (Tryd.func9.symm.trans hfn)).symm
      exact ⟨by kernel_rfl, fun j t ht => by
        rw [Tryd.params9] at ht
        have hm : t ∈ [45, 43, 29] := by simpa using Array.mem_of_getElem? ht
        have hall : ([45, 43, 29].all fun u => !Tryd.prog.wantsStandIn u) = true := by kernel_rfl
        exact (show Tryd.prog.wantsStandIn t = false by simpa using List.all_eq_true.1 hall t hm)⟩)
    (by kernel_rfl)
#print axioms proved
end Go.Proofs.YtlpdoieiiadhhaaDoor.fnExactFeedHead
