/- Contract of DrawFeedHead: a small feed, a head and a list in memory of the call's own; nothing that was there is changed. Condition: the code's bytes lie in memory. -/
import Derived.Test.YtlpdoieiiadhhaaDoorDrawFeed
import Derived.Test.YtlpdoieiiadhhaaDoorDrawBend2
import Derived.Test.YtlpdoieiiadhhaaDoorBaseC
import Derived.Test.YtlpdoieiiadhhaaDoorLeaves2
import Derived.Test.YtlpdoieiiadhhaaDoorBaseD
import Derived.Deep.DeepCutAuto
import Derived.Deep.CutBlock
namespace Go.Proofs.YtlpdoieiiadhhaaDoor
open Go.RowKit
set_option linter.unusedVariables false

set_option maxRecDepth 100000 in
theorem run_app_nothingS (W : World) (ty b c bc : Nat) (B : Option Addr) : (Builtin.append_ #[25, 25] ty #[.slice (some ⟨b, 0, none⟩) 0 c, .slice B 0 bc]).run Tryd.prog W = .ok (.slice (some ⟨b, 0, none⟩) 0 c) W := by
  obtain ⟨i0, hi0, hz0, hz1, hz2⟩ := info_parts string_info
  cases B with
  | none => simp [Builtin.append_, run_underlying Tryd.underlying25, sizeOf, typeInfo, hi0, Builtin.lenOf, Builtin.firstCells, storeCells]
  | some ad => simp [Builtin.append_, run_underlying Tryd.underlying25, sizeOf, typeInfo, hi0, Builtin.lenOf, Builtin.firstCells, storeCells, loadCells, loadCellsFrom]
theorem wpList_app_nothingS {ops : Array Oper} {rest : List Oper} {o : Oper} {a : Act} {Q : Exit → Act → World → Prop} (hgd : o.guard = none) (s x : Operand) (ho : o.op = .call { callee := .builtin .append, args := #[s, x], argTypes := #[25, 25] })
    (W : World) (b c : Nat) (hs : a.eval s = .slice (some ⟨b, 0, none⟩) 0 c) (B : Option Addr) (bc : Nat) (hx : a.eval x = .slice B 0 bc)
    (h : wpList Tryd.prog ops Q rest (a.put o.dst (.slice (some ⟨b, 0, none⟩) 0 c)) W) : wpList Tryd.prog ops Q (o :: rest) a W :=
  wpList_plain hgd fun K hK => by
    have hrun := run_app_nothingS W o.type b c bc B
    unfold Oper.wp execOp
    simp only [ho, resolve, invoke, builtin, Sem.run_bind, Sem.run_pure, Result.andThen_ok, List.map_toArray, List.map_cons, List.map_nil, hs, hx, hrun]
    exact hK _ _ h

theorem owns_at {w : World} {base : Nat} {A : Option Addr} {c : Nat} {bs : List ByteArray} (h : OwnStrs w base A c bs) (hn : 0 < bs.length) : ∃ y, A = some ⟨y, 0, none⟩ := by
  rcases owns_form h with hn' | h'
  · obtain ⟨b, o, e, _⟩ := h.ints hn
    rw [hn'] at e; cases e
  · exact h'
theorem OwnFeed.kept {w w' : World} {base : Nat} {A1 A2 : Option Addr} {c1 c2 : Nat} {bs : List ByteArray} {hs : List Bool} (h : OwnFeed w base A1 c1 A2 c2 bs hs) {g : Nat} (hg : w.grownBy w' (some g)) (hgb : g < base) : OwnFeed w' base A1 c1 A2 c2 bs hs :=
  ⟨owns_keep h.strs hg (fun k hk => by injection hk with hk; omega), ownbs_keep h.bits hg (fun k hk => by injection hk with hk; omega), h.fit⟩

/-- Where the draw stands: the results' blocks, the reader, the writer's blocks, the feed, the head, the proof. -/
structure Fh (w : World) (A : Option Addr) (len cap q : Nat) (X : Option Addr) (c : Nat) (b0 : List ByteArray) (gf : Nat) (p l d s : Int) (A1 : Option Addr) (c1 : Nat) (A2 : Option Addr) (c2 : Nat) (bs : List ByteArray) (hs : List Bool) (gh : Nat) (hl hd ht : Int) (G : Option Addr) (cg : Nat) (gz : List Int) (wx : World) : Prop where
  rd : Rd wx (w.heap.size + 1 + 1) (w.heap.size + 1 + 1) A len cap q
  below : Below w.heap.size w wx
  ka : Blk wx w.heap.size 28 (feedC 0 0 0 0 none 0 0 none 0 0)
  kb : Blk wx (w.heap.size + 1) 24 #[.int .i64 0, .int .i64 0, .int .i64 0]
  own1 : OwnStrs wx (w.heap.size + 1 + 1 + 1) X c b0
  kf : Blk wx gf 28 (feedC p l d s A1 bs.length c1 A2 hs.length c2)
  feed : OwnFeed wx (w.heap.size + 1 + 1 + 1) A1 c1 A2 c2 bs hs
  kh : Blk wx gh 24 #[.int .i64 hl, .int .i64 hd, .int .i64 ht]
  growth : OwnInts wx (w.heap.size + 1 + 1 + 1) G cg gz
  few : gz.length ≤ 100
  bigf : w.heap.size + 1 + 1 + 1 ≤ gf
  bigh : w.heap.size + 1 + 1 + 1 ≤ gh
section
variable {w w1 w2 : World} {len cap q q' c c1 c2 cg gf gh : Nat} {A X A1 A2 G : Option Addr} {b0 bs : List ByteArray} {hs : List Bool} {p l d s hl hd ht : Int} {gz : List Int}
theorem Fh.pick (h : Fh w A len cap q X c b0 gf p l d s A1 c1 A2 c2 bs hs gh hl hd ht G cg gz w1) (hR : Rd w2 (w.heap.size + 1 + 1) (w.heap.size + 1 + 1) A len cap q') (hg : w1.grownBy w2 (some (w.heap.size + 1 + 1))) : Fh w A len cap q' X c b0 gf p l d s A1 c1 A2 c2 bs hs gh hl hd ht G cg gz w2 :=
  ⟨hR, h.below.grown hg (by have := h.rd.lt; omega) (fun k hk => by injection hk with hk; omega), h.ka.grown hg (fun e => by injection e with e; omega), h.kb.grown hg (fun e => by injection e with e; omega), owns_keep h.own1 hg (fun k hk => by injection hk with hk; omega), h.kf.grown hg (fun e => by injection e with e; have := h.bigf; omega), h.feed.kept hg (by omega), h.kh.grown hg (fun e => by injection e with e; have := h.bigh; omega), h.growth.keep hg (fun k hk => by injection hk with hk; omega), h.few, h.bigf, h.bigh⟩
theorem Fh.then_ (h : Fh w A len cap q X c b0 gf p l d s A1 c1 A2 c2 bs hs gh hl hd ht G cg gz w1) (hb : Below w1.heap.size w1 w2) : Fh w A len cap q X c b0 gf p l d s A1 c1 A2 c2 bs hs gh hl hd ht G cg gz w2 :=
  ⟨h.rd.then_ hb h.rd.lt, h.below.trans (hb.mono h.below.size), h.ka.below hb h.ka.lt, h.kb.below hb h.kb.lt, h.own1.below hb, h.kf.below hb h.kf.lt, h.feed.below hb, h.kh.below hb h.kh.lt, h.growth.below hb, h.few, h.bigf, h.bigh⟩
theorem ints_ne_blk {W : World} {base : Nat} {G : Option Addr} {cg g : Nat} {gz : List Int} {cs : Array Value} (h : OwnInts W base G cg gz) (hk : Blk W g 24 cs) : ∀ x, G = some ⟨x, 0, none⟩ → x ≠ g := by
  intro x e1 e
  subst e
  rcases h.2 with ⟨hv, _⟩ | ⟨y, c', cur, hv, _, hb, _⟩
  · injection hv with hA _ _; rw [hA] at e1; cases e1
  · injection hv with hA _ _
    rw [e1] at hA
    injection hA with hA
    injection hA with hA _ _
    subst hA
    unfold Blk at hk
    rw [hb] at hk
    injection hk with hk
    injection hk with _ ht _
    exact absurd ht (by decide)
theorem strs_ne_head {W : World} {base : Nat} {G : Option Addr} {cg g : Nat} {gz : List ByteArray} {cs : Array Value} (h : OwnStrs W base G cg gz) (hk : Blk W g 24 cs) : ∀ x, G = some ⟨x, 0, none⟩ → x ≠ g := by
  intro x e1 e
  subst e
  rcases h.2 with ⟨hv, _⟩ | ⟨y, c', cur, hv, _, hb, _⟩
  · injection hv with hA _ _; rw [hA] at e1; cases e1
  · injection hv with hA _ _
    rw [e1] at hA
    injection hA with hA
    injection hA with hA _ _
    subst hA
    unfold Blk at hk
    rw [hb] at hk
    injection hk with hk
    injection hk with _ ht _
    exact absurd ht (by decide)
theorem bits_ne_head {W : World} {base : Nat} {G : Option Addr} {cg g : Nat} {gz : List Bool} {cs : Array Value} (h : OwnBools W base G cg gz) (hk : Blk W g 24 cs) : ∀ x, G = some ⟨x, 0, none⟩ → x ≠ g := by
  intro x e1 e
  subst e
  rcases h.2 with ⟨hv, _⟩ | ⟨y, c', cur, hv, _, hb, _⟩
  · injection hv with hA _ _; rw [hA] at e1; cases e1
  · injection hv with hA _ _
    rw [e1] at hA
    injection hA with hA
    injection hA with hA _ _
    subst hA
    unfold Blk at hk
    rw [hb] at hk
    injection hk with hk
    injection hk with _ ht _
    exact absurd ht (by decide)
theorem feed_ne_head {W : World} {g g' : Nat} {cs cs' : Array Value} (h : Blk W g 28 cs) (hk : Blk W g' 24 cs') : g ≠ g' := by
  rintro rfl
  unfold Blk at h hk
  rw [h] at hk
  injection hk with hk
  injection hk with _ ht _
  exact absurd ht (by decide)
/-- A cell of the head is written. -/
theorem Fh.seth (h : Fh w A len cap q X c b0 gf p l d s A1 c1 A2 c2 bs hs gh hl hd ht G cg gz w1) (x : Int) : Fh w A len cap q X c b0 gf p l d s A1 c1 A2 c2 bs hs gh x hd ht G cg gz (w1.setCell ⟨gh, 0, none⟩ (.int .i64 x)) ∧ Fh w A len cap q X c b0 gf p l d s A1 c1 A2 c2 bs hs gh hl x ht G cg gz (w1.setCell ⟨gh, 1, none⟩ (.int .i64 x)) ∧ Fh w A len cap q X c b0 gf p l d s A1 c1 A2 c2 bs hs gh hl hd x G cg gz (w1.setCell ⟨gh, 2, none⟩ (.int .i64 x)) := by
  have hb := h.bigh
  have hn1 := strs_ne_head h.own1 h.kh
  have hn2 := strs_ne_head h.feed.strs h.kh
  have hn3 := bits_ne_head h.feed.bits h.kh
  have hn4 := ints_ne_blk h.growth h.kh
  have hn5 := feed_ne_head h.kf h.kh
  have key : ∀ (j : Nat) (hl' hd' ht' : Int), Blk (w1.setCell ⟨gh, j, none⟩ (.int .i64 x)) gh 24 #[.int .i64 hl', .int .i64 hd', .int .i64 ht'] → Fh w A len cap q X c b0 gf p l d s A1 c1 A2 c2 bs hs gh hl' hd' ht' G cg gz (w1.setCell ⟨gh, j, none⟩ (.int .i64 x)) := fun j hl' hd' ht' hk =>
    ⟨h.rd.setOther (q := ⟨gh, j, none⟩) (by show _ ≤ gh; omega) (by show gh ≠ _; omega) _, h.below.setCell (p := ⟨gh, j, none⟩) (by show _ ≤ gh; omega) _, h.ka.setOther (p := ⟨gh, j, none⟩) (by show gh ≠ _; omega) _, h.kb.setOther (p := ⟨gh, j, none⟩) (by show gh ≠ _; omega) _, owns_block h.own1 fun y hy => Below.heap_setCell w1 ⟨gh, j, none⟩ _ y (hn1 y hy), h.kf.setOther (p := ⟨gh, j, none⟩) (fun e => hn5 e.symm) _, ⟨owns_block h.feed.strs fun y hy => Below.heap_setCell w1 ⟨gh, j, none⟩ _ y (hn2 y hy), ownb_block h.feed.bits fun y hy => Below.heap_setCell w1 ⟨gh, j, none⟩ _ y (hn3 y hy), h.feed.fit⟩, hk, own_block h.growth fun y hy => Below.heap_setCell w1 ⟨gh, j, none⟩ _ y (hn4 y hy), h.few, h.bigf, h.bigh⟩
  exact ⟨key 0 _ _ _ (h.kh.setOwn 0 _), key 1 _ _ _ (h.kh.setOwn 1 _), key 2 _ _ _ (h.kh.setOwn 2 _)⟩
theorem Fh.set3 (h : Fh w A len cap q X c b0 gf p l d s A1 c1 A2 c2 bs hs gh hl hd ht G cg gz w1) (x y z : Int) : Fh w A len cap q X c b0 gf p l d s A1 c1 A2 c2 bs hs gh x y z G cg gz (((w1.setCell ⟨gh, 0, none⟩ (.int .i64 x)).setCell ⟨gh, 1, none⟩ (.int .i64 y)).setCell ⟨gh, 2, none⟩ (.int .i64 z)) :=
  (((h.seth x).1.seth y).2.1.seth z).2.2
theorem Fh.grow (h : Fh w A len cap q X c b0 gf p l d s A1 c1 A2 c2 bs hs gh hl hd ht G cg gz w1) {G' : Option Addr} {cg' : Nat} {gz' : List Int} (ho : OwnInts w1 (w.heap.size + 1 + 1 + 1) G' cg' gz') (hf : gz'.length ≤ 100) : Fh w A len cap q X c b0 gf p l d s A1 c1 A2 c2 bs hs gh hl hd ht G' cg' gz' w1 :=
  ⟨h.rd, h.below, h.ka, h.kb, h.own1, h.kf, h.feed, h.kh, ho, hf, h.bigf, h.bigh⟩
/-- A text of a row that was made behind all others is written. -/
theorem Fh.put (h : Fh w A len cap q X c b0 gf p l d s A1 c1 A2 c2 bs hs gh hl hd ht G cg gz w1) {Y K : Nat} (hY : K ≤ Y) (hK : w.heap.size + 1 + 1 + 1 ≤ K) (hX : ∀ g, X = some ⟨g, 0, none⟩ → g < K) (h1 : ∀ g, A1 = some ⟨g, 0, none⟩ → g < K) (h2 : ∀ g, A2 = some ⟨g, 0, none⟩ → g < K) (h3 : ∀ g, G = some ⟨g, 0, none⟩ → g < K) (hf : gf < K) (hh : gh < K) (j : Nat) (x : ByteArray) : Fh w A len cap q X c b0 gf p l d s A1 c1 A2 c2 bs hs gh hl hd ht G cg gz (w1.setCell ⟨Y, j, none⟩ (.string x)) :=
  ⟨h.rd.setOther (q := ⟨Y, j, none⟩) (by show _ ≤ Y; omega) (by show Y ≠ _; omega) _, h.below.setCell (p := ⟨Y, j, none⟩) (by show _ ≤ Y; omega) _, h.ka.setOther (p := ⟨Y, j, none⟩) (by show Y ≠ _; omega) _, h.kb.setOther (p := ⟨Y, j, none⟩) (by show Y ≠ _; omega) _, owns_block h.own1 fun y hy => Below.heap_setCell w1 ⟨Y, j, none⟩ _ y (by have := hX y hy; show y ≠ Y; omega), h.kf.setOther (p := ⟨Y, j, none⟩) (by show Y ≠ gf; omega) _, ⟨owns_block h.feed.strs fun y hy => Below.heap_setCell w1 ⟨Y, j, none⟩ _ y (by have := h1 y hy; show y ≠ Y; omega), ownb_block h.feed.bits fun y hy => Below.heap_setCell w1 ⟨Y, j, none⟩ _ y (by have := h2 y hy; show y ≠ Y; omega), h.feed.fit⟩, h.kh.setOther (p := ⟨Y, j, none⟩) (by show Y ≠ gh; omega) _, own_block h.growth fun y hy => Below.heap_setCell w1 ⟨Y, j, none⟩ _ y (by have := h3 y hy; show y ≠ Y; omega), h.few, h.bigf, h.bigh⟩
end

def HeadFeedDrawn (w : World) (e : Ending) (w' : World) : Prop :=
  ∃ p l d s A1 c1 A2 c2 bs hs hl hd ht G cg gz, e = .returned (.tuple #[feedV p l d s A1 (List.length bs) c1 A2 (List.length hs) c2, headV hl hd ht, .slice G (List.length gz) cg]) ∧ OwnFeed w' w.heap.size A1 c1 A2 c2 bs hs ∧ OwnInts w' w.heap.size G cg gz ∧ bs.length ≤ 16 ∧ hs.length ≤ 17 ∧ Below w.heap.size w w'

set_option maxHeartbeats 16000000 in
set_option maxRecDepth 100000 in
theorem drawFeedHead_any (A : Option Addr) (len cap : Nat) (w : World) (hI : In w A len cap) :
    Calls Tryd.prog 11 #[.slice A len cap] w (HeadFeedDrawn w) := by
  have HI := Lib.hid (in_alloc (in_alloc hI (.cells (feedC 0 0 0 0 none 0 0 none 0 0) 28)) (.cells #[.int .i64 0, .int .i64 0, .int .i64 0] 24))
  clear hI
  go_enter Tryd.func11, Tryd.ntmps11
  go_wp2_with fail
  refine (open_any A len cap _ HI.out).mono ?_
  rintro e w1 ⟨len', cap', rfl, hR1, hb1⟩
  simp only [World.size_alloc] at hR1 hb1 ⊢
  have HR1 := Lib.hid hR1
  have KA1 : Hid (Blk w1 w.heap.size 28 (feedC 0 0 0 0 none 0 0 none 0 0)) := ((Blk.new w 28 (feedC 0 0 0 0 none 0 0 none 0 0)).alloc _).below hb1 (by omega)
  have KB1 : Hid (Blk w1 (w.heap.size + 1) 24 #[.int .i64 0, .int .i64 0, .int .i64 0]) := by
    have h := Blk.new (w.alloc (.cells (feedC 0 0 0 0 none 0 0 none 0 0) 28)) 24 #[.int .i64 0, .int .i64 0, .int .i64 0]
    rw [World.size_alloc] at h
    exact h.below hb1 (by omega)
  have HB1 : Hid (Below w.heap.size w w1) := (((Below.refl _ w).alloc (Nat.le_refl _) _).alloc (by simp) _).trans (hb1.mono (by omega))
  have hg1 : w.heap.size + 1 + 1 < w1.heap.size := hR1.lt
  clear hR1 hb1
  go_wp2_with fail
  refine (drawgood_any HR1.out (by omega)).mono ?_
  rintro e w2 ⟨sec, q2, hs0, hs1, hq2, rfl, hR2, hg2⟩
  have HR2 := Lib.hid hR2
  have KA2 := Lib.hid (KA1.out.grown hg2 (fun e => by injection e with e; omega))
  have KB2 := Lib.hid (KB1.out.grown hg2 (fun e => by injection e with e; omega))
  have HB2 : Hid (Below w.heap.size w w2) := HB1.out.grown hg2 (by omega) (fun k hk => by injection hk with hk; omega)
  have hz2 : w1.heap.size ≤ w2.heap.size := hg2.size
  clear hR2 hg2
  go_wp2_with fail
  refine (drawblocks_any HR2.out (by omega)).mono ?_
  rintro e w3 ⟨X, c, b0, q3, rfl, hl0, hq3, hS3⟩
  have HS3 := Lib.hid hS3
  have KA3 := Lib.hid (KA2.out.grown hS3.grown (fun e => by injection e with e; omega))
  have KB3 := Lib.hid (KB2.out.grown hS3.grown (fun e => by injection e with e; omega))
  have HB3 : Hid (Below w.heap.size w w3) := HB2.out.grown hS3.grown (by omega) (fun k hk => by injection hk with hk; omega)
  have hz3 : w2.heap.size ≤ w3.heap.size := hS3.grown.size
  obtain ⟨bX, hX⟩ := hS3.some_
  subst hX
  have HSH := Lib.hid hS3.short
  have HSHT : Hid (Short b0) := fun k hk => by rw [sth_get b0 k hk]; exact hS3.short _ (List.getElem_mem hk)
  clear hS3
  obtain ⟨n, HN⟩ : ∃ n, Hid (b0.length = n) := ⟨_, rfl⟩
  rw [HN.out] at hl0 ⊢
  go_wp2_with fail
  refine (pick_any ((n : Int) + 1) HS3.out.rd (by omega) (by omega) (by omega)).mono ?_
  rintro e w4 ⟨m, hm, rfl, hR4, hg4, hz4⟩
  have hmn : m ≤ n := by omega
  have HR4 := Lib.hid hR4
  have KA4 := Lib.hid (KA3.out.grown hg4 (fun e => by injection e with e; omega))
  have KB4 := Lib.hid (KB3.out.grown hg4 (fun e => by injection e with e; omega))
  have HB4 : Hid (Below w.heap.size w w4) := HB3.out.grown hg4 (by omega) (fun k hk => by injection hk with hk; omega)
  have HO4 : Hid (OwnStrs w4 (w.heap.size + 1 + 1 + 1) (some ⟨bX, 0, none⟩) c b0) := (owns_keep HS3.out.own hg4 (fun k hk => by injection hk with hk; omega)).base_le (by omega)
  have hz4 : w3.heap.size ≤ w4.heap.size := hg4.size
  clear hR4 hg4 HS3 KA3 KB3 HB3
  have hcl := HO4.out.le
  rw [HN.out] at hcl
  have hc63 := hcl.2
  unfold maxLen at hc63
  have hmi : (m : Int) ≤ (n : Int) := by omega
  have hmc : (m : Int) ≤ (c : Int) := by omega
  have hm0 : (0 : Int) ≤ (m : Int) := by omega
  have HTL : Hid ((b0.take m).length = m) := by show _ = _; rw [List.length_take, HN.out]; omega
  have HST : Hid (Short (b0.take m)) := fun k hk => by
    have hk' : k < m := by rw [HTL.out] at hk; exact hk
    rw [sth_get _ k hk, List.getElem_take]
    exact HSH.out _ (List.getElem_mem _)
  have CR := Lib.hid (drawreader_any HR4.out (by omega) sec (some ⟨bX, 0, none⟩) c (b0.take m) (by omega) (by omega) (HO4.out.ints.first m) (fun x hx => HSH.out x (List.mem_of_mem_take hx)) (by rw [HTL.out]; omega))
  rw [HTL.out] at CR
  go_wp2_with fail
  refine CR.out.mono ?_
  rintro e w5 ⟨p', l', d', s', Z1, e1, Z2, e2, b1, h1, q5, rfl, ho5, hb1, hh1, hq5, -, hR5, hg5⟩
  have KA5 := Lib.hid (KA4.out.grown hg5 (fun e => by injection e with e; omega))
  have KB5 := Lib.hid (KB4.out.grown hg5 (fun e => by injection e with e; omega))
  have HB5 : Hid (Below w.heap.size w w5) := HB4.out.grown hg5 (by omega) (fun k hk => by injection hk with hk; omega)
  have HO5 : Hid (OwnStrs w5 (w.heap.size + 1 + 1 + 1) (some ⟨bX, 0, none⟩) c b0) := owns_keep HO4.out hg5 (fun k hk => by injection hk with hk; omega)
  have HR5 := Lib.hid hR5
  have HF5 := Lib.hid ho5
  have hz5 : w4.heap.size ≤ w5.heap.size := hg5.size
  clear ho5 hR5 hg5 CR
  go_wp2_with fail
  refine (drawspoilt_any HR5.out (by omega) p' l' d' s' Z1 e1 Z2 e2 b1 h1 HF5.out.at_ (own_nil_cap HF5.out).1 (own_nil_cap HF5.out).2 hb1 hh1).mono ?_
  rintro e w6 ⟨p, l, d, s, A1, c1, A2, c2, bs, hs, q6, rfl, ho6, hlb, hlh, hq6, -, hR6, hg6⟩
  have KA6 := Lib.hid (KA5.out.grown hg6 (fun e => by injection e with e; omega))
  have KB6 := Lib.hid (KB5.out.grown hg6 (fun e => by injection e with e; omega))
  have HB6 : Hid (Below w.heap.size w w6) := HB5.out.grown hg6 (by omega) (fun k hk => by injection hk with hk; omega)
  have HO6 : Hid (OwnStrs w6 (w.heap.size + 1 + 1 + 1) (some ⟨bX, 0, none⟩) c b0) := owns_keep HO5.out hg6 (fun k hk => by injection hk with hk; omega)
  have hz6 : w5.heap.size ≤ w6.heap.size := hg6.size
  have HR6 := Lib.hid hR6
  have HF6 : Hid (OwnFeed w6 (w.heap.size + 1 + 1 + 1) A1 c1 A2 c2 bs hs) := ho6.base_le (by omega)
  clear ho6 hR6 hg6 HF5 HR5 KA5 KB5 KA4 KB4 KA2 KB2 KA1 KB1
  obtain ⟨V, HV⟩ : ∃ V, Hid (w6.alloc (.cells (feedC p l d s A1 bs.length c1 A2 hs.length c2) 28) = V) := ⟨_, rfl⟩
  have hbV : Below w6.heap.size w6 V := by rw [← HV.out]; exact (Below.refl _ _).alloc (Nat.le_refl _) _
  have KAV := Lib.hid (KA6.out.below hbV KA6.out.lt)
  have KBV := Lib.hid (KB6.out.below hbV KB6.out.lt)
  have HBV : Hid (Below w.heap.size w V) := HB6.out.trans (hbV.mono HB6.out.size)
  have HOV := Lib.hid (HO6.out.below hbV)
  have HRV := Lib.hid (HR6.out.then_ hbV HR6.out.lt)
  have HFV := Lib.hid (HF6.out.below hbV)
  have KFV : Hid (Blk V w6.heap.size 28 (feedC p l d s A1 bs.length c1 A2 hs.length c2)) := by rw [← HV.out]; exact Blk.new w6 _ _
  clear hbV
  have CL : Hid (∀ U, StrsAt U U.heap.size (some ⟨bX, 0, none⟩) b0 → Calls Tryd.prog 39 #[.slice (some ⟨bX, 0, none⟩) n c] U (RetSome U (leafL b0))) := fun U hU => by
    have h := sleaves_some (some ⟨bX, 0, none⟩) c b0 U hU HSHT.out (by rw [HN.out]; omega)
    rw [HN.out] at h
    exact h
  have HLL : Hid ((leafL b0).length = n) := by show _ = _; rw [leafL_length]; exact HN.out
  go_wp2_with fail
  rw [HV.out]
  refine (CL.out _ HOV.out.ints).mono ?_
  rintro e w7 ⟨y7, f7, rfl, ho7, hb7⟩
  rw [HLL.out]
  have KA7 := Lib.hid (KAV.out.below hb7 KAV.out.lt)
  have KB7 := Lib.hid (KBV.out.below hb7 KBV.out.lt)
  have HB7 : Hid (Below w.heap.size w w7) := HBV.out.trans (hb7.mono HBV.out.size)
  have HO7 := Lib.hid (HOV.out.below hb7)
  have HR7 := Lib.hid (HRV.out.then_ hb7 HRV.out.lt)
  have HF7 := Lib.hid (HFV.out.below hb7)
  have KF7 := Lib.hid (KFV.out.below hb7 KFV.out.lt)
  have C2 : Hid (Calls Tryd.prog 38 #[.int .i64 sec, .slice (some ⟨y7, 0, none⟩) n f7] w7 fun e w' => e = .returned (.tuple #[headV (madeL sec (leafL b0)) (madeD sec (leafL b0)) (madeS sec (leafL b0)), .bool (madeOk sec (leafL b0))]) ∧ Below w7.heap.size w7 w') := by
    have h := smake_any sec (leafL b0) y7 0 f7 w7 ho7.ints ho7.le.1 ho7.le.2
    rw [HLL.out] at h
    exact h
  obtain ⟨a1, Ha1⟩ : ∃ x, Hid (madeL sec (leafL b0) = x) := ⟨_, rfl⟩
  obtain ⟨a2, Ha2⟩ : ∃ x, Hid (madeD sec (leafL b0) = x) := ⟨_, rfl⟩
  obtain ⟨a3, Ha3⟩ : ∃ x, Hid (madeS sec (leafL b0) = x) := ⟨_, rfl⟩
  obtain ⟨a4, Ha4⟩ : ∃ x, Hid (madeOk sec (leafL b0) = x) := ⟨_, rfl⟩
  rw [Ha1.out, Ha2.out, Ha3.out, Ha4.out] at C2
  clear hb7 ho7
  go_wp2_with fail
  refine C2.out.mono ?_
  rintro e w8 ⟨rfl, hb8⟩
  obtain ⟨U8, HU8⟩ : ∃ U, Hid (w8.alloc (.cells #[.int .i64 a1, .int .i64 a2, .int .i64 a3] 24) = U) := ⟨_, rfl⟩
  have hbU : Below w7.heap.size w7 U8 := by rw [← HU8.out]; exact hb8.trans ((Below.refl _ _).alloc hb8.size _)
  have KA8 := Lib.hid (KA7.out.below hbU KA7.out.lt)
  have KB8 := Lib.hid (KB7.out.below hbU KB7.out.lt)
  have HB8 : Hid (Below w.heap.size w U8) := HB7.out.trans (hbU.mono HB7.out.size)
  have HO8 := Lib.hid (HO7.out.below hbU)
  have HR8 := Lib.hid (HR7.out.then_ hbU HR7.out.lt)
  have HF8 := Lib.hid (HF7.out.below hbU)
  have KF8 := Lib.hid (KF7.out.below hbU KF7.out.lt)
  have KH8 : Hid (Blk U8 w8.heap.size 24 #[.int .i64 a1, .int .i64 a2, .int .i64 a3]) := by rw [← HU8.out]; exact Blk.new w8 _ _
  have hz8 : w7.heap.size ≤ w8.heap.size := hb8.size
  have hz7 : w6.heap.size < w7.heap.size := KF7.out.lt
  clear hb8 hbU
  go_wp2_with fail
  rw [HU8.out]
  refine (CL.out _ HO8.out.ints).mono ?_
  rintro e w9 ⟨y9, f9, rfl, ho9, hb9⟩
  rw [HLL.out]
  have HFh9 : Hid (∀ W, Below w9.heap.size w9 W → ∀ G cg gz, OwnInts W (w.heap.size + 1 + 1 + 1) G cg gz → gz.length ≤ 100 → Fh w A len' cap' q6 (some ⟨bX, 0, none⟩) c b0 w6.heap.size p l d s A1 c1 A2 c2 bs hs w8.heap.size a1 a2 a3 G cg gz W) := fun W hW G cg gz ho hf => by
    have hb := hb9.trans (hW.mono hb9.size)
    exact ⟨HR8.out.then_ hb HR8.out.lt, HB8.out.trans (hb.mono HB8.out.size), KA8.out.below hb KA8.out.lt, KB8.out.below hb KB8.out.lt, HO8.out.below hb, KF8.out.below hb KF8.out.lt, HF8.out.below hb, KH8.out.below hb KH8.out.lt, ho, hf, by omega, by omega⟩
  have C3 : Hid (Calls Tryd.prog 40 #[.slice (some ⟨y9, 0, none⟩) n f9, .int .i64 (m : Int)] w9 (RetInts w9 (growthOr (leafL b0) (m : Int)))) := by
    have h := sgrowth_any (leafL b0) (m : Int) y9 0 f9 w9 ho9.ints ho9.le.1 ho9.le.2
    rw [HLL.out] at h
    exact h
  have hz9 : w8.heap.size < w9.heap.size := by have h1 := KH8.out.lt; have h2 := hb9.size; omega
  clear hb9 ho9
  go_wp2_with fail
  refine C3.out.mono ?_
  rintro e w10 ⟨G, cg, rfl, ho10, hb10⟩
  have HF10 := Lib.hid (HFh9.out w10 hb10 G cg (growthOr (leafL b0) (m : Int)) (ho10.base_le (by omega)) (by have := growthOr_34 (leafL b0) (m : Int); omega))
  obtain ⟨gz, HGZ⟩ : ∃ gz, Hid (growthOr (leafL b0) (m : Int) = gz) := ⟨_, rfl⟩
  have hgz34 : gz.length ≤ 34 := by rw [← HGZ.out]; exact growthOr_34 _ _
  rw [HGZ.out] at HF10 ⊢
  obtain ⟨gf, HGF⟩ : ∃ g, Hid (w6.heap.size = g) := ⟨_, rfl⟩
  obtain ⟨gh, HGH⟩ : ∃ g, Hid (w8.heap.size = g) := ⟨_, rfl⟩
  rw [HGF.out, HGH.out] at HF10
  rw [HGF.out, HGH.out]
  have hfh : gf < gh := by have := HGF.out; have := HGH.out; omega
  clear hb10 ho10 HFh9 KA6 KB6 HB6 HO6 HR6 HF6 KA7 KB7 HB7 HO7 HR7 HF7 KF7 KA8 KB8 HB8 HO8 HR8 HF8 KF8 KH8 KAV KBV HBV HOV HRV HFV KFV HO4 HO5
  go_wp2_with fail
  refine (pick_any 12 HF10.out.rd (by omega) (by omega) (by omega)).mono ?_
  rintro e w11 ⟨t, ht, rfl, hR11, hg11, hz11⟩
  have HF11 := Lib.hid (HF10.out.pick hR11 hg11)
  clear hR11 hg11 hz11 HF10
  go_upto_block 0 with fail
  go_cut [12] (fun s12 wx => ∃ (G' : Option Addr) (cg' : Nat) (gz' : List Int) (x y z : Int) (q' : Nat), s12 = .slice G' gz'.length cg' ∧ Hid (Fh w A len' cap' q' (some ⟨bX, 0, none⟩) c b0 gf p l d s A1 c1 A2 c2 bs hs gh x y z G' cg' gz' wx))
  case first =>
    by_cases t0 : t = 0
    · subst t0
      have HLT : Hid ((leafL (b0.take m)).length = m) := by show _ = _; rw [leafL_length, List.length_take, HN.out]; omega
      have HSK : Hid (Short (b0.take m)) := fun j hj => by
        rw [sth_get _ j hj, List.getElem_take]
        exact HSH.out _ (List.getElem_mem _)
      have CLk : Hid (∀ U, StrsAt U U.heap.size (some ⟨bX, 0, none⟩) b0 → Calls Tryd.prog 39 #[.slice (some ⟨bX, 0, none⟩) m c] U (RetSome U (leafL (b0.take m)))) := fun U hU => by
        have h := sleaves_some (some ⟨bX, 0, none⟩) c (b0.take m) U (hU.first m) HSK.out (by rw [List.length_take, HN.out]; omega)
        rw [show (b0.take m).length = m by rw [List.length_take, HN.out]; omega] at h
        exact h
      go_wp2_with fail
      refine (CLk.out _ HF11.out.own1.ints).mono ?_
      rintro e w13 ⟨y13, f13, rfl, ho13, hb13⟩
      rw [HLT.out]
      have HF13 := Lib.hid (HF11.out.then_ hb13)
      have C13 : Hid (Calls Tryd.prog 38 #[.int .i64 sec, .slice (some ⟨y13, 0, none⟩) m f13] w13 fun e w' => e = .returned (.tuple #[headV (madeL sec (leafL (b0.take m))) (madeD sec (leafL (b0.take m))) (madeS sec (leafL (b0.take m))), .bool (madeOk sec (leafL (b0.take m)))]) ∧ Below w13.heap.size w13 w') := by
        have h := smake_any sec (leafL (b0.take m)) y13 0 f13 w13 ho13.ints ho13.le.1 ho13.le.2
        rw [HLT.out] at h
        exact h
      obtain ⟨r1, Hr1⟩ : ∃ x, Hid (madeL sec (leafL (b0.take m)) = x) := ⟨_, rfl⟩
      obtain ⟨r2, Hr2⟩ : ∃ x, Hid (madeD sec (leafL (b0.take m)) = x) := ⟨_, rfl⟩
      obtain ⟨r3, Hr3⟩ : ∃ x, Hid (madeS sec (leafL (b0.take m)) = x) := ⟨_, rfl⟩
      obtain ⟨r4, Hr4⟩ : ∃ x, Hid (madeOk sec (leafL (b0.take m)) = x) := ⟨_, rfl⟩
      rw [Hr1.out, Hr2.out, Hr3.out, Hr4.out] at C13
      clear hb13 ho13
      go_wp2_with fail
      refine C13.out.mono ?_
      rintro e w14 ⟨rfl, hb14⟩
      have HF14 := Lib.hid (HF13.out.then_ hb14)
      clear hb14
      have j0 : w14.cell? ⟨gh, 0, none⟩ = some _ := HF14.out.kh.cell 0
      have j1 : w14.cell? ⟨gh, 1, none⟩ = some _ := HF14.out.kh.cell 1
      have j2 : w14.cell? ⟨gh, 2, none⟩ = some _ := HF14.out.kh.cell 2
      have jf := blk_frozen HF14.out.kh
      have HF15 := Lib.hid (HF14.out.set3 r1 r2 r3)
      go_wp2_with fail
      go_meet
      exact ⟨_, _, _, _, _, _, _, rfl, HF15⟩
    · have t0' : ((t : Int) == 0) = false := by rw [beq_eq_false_iff_ne]; omega
      by_cases t1 : t = 1
      · subst t1
        go_wp2_with fail
        refine (pick_any ((m : Int) + 1) HF11.out.rd (by omega) (by omega) (by omega)).mono ?_
        rintro e w12 ⟨k, hk, rfl, hR12, hg12, hz12⟩
        have HF12 := Lib.hid (HF11.out.pick hR12 hg12)
        have hkn : k ≤ n := by omega
        have hki : (k : Int) ≤ (n : Int) := by omega
        have hkc : (k : Int) ≤ (c : Int) := by omega
        clear hR12 hg12 hz12
        have HLT : Hid ((leafL (b0.take k)).length = k) := by show _ = _; rw [leafL_length, List.length_take, HN.out]; omega
        have HSK : Hid (Short (b0.take k)) := fun j hj => by
          rw [sth_get _ j hj, List.getElem_take]
          exact HSH.out _ (List.getElem_mem _)
        have CLk : Hid (∀ U, StrsAt U U.heap.size (some ⟨bX, 0, none⟩) b0 → Calls Tryd.prog 39 #[.slice (some ⟨bX, 0, none⟩) k c] U (RetSome U (leafL (b0.take k)))) := fun U hU => by
          have h := sleaves_some (some ⟨bX, 0, none⟩) c (b0.take k) U (hU.first k) HSK.out (by rw [List.length_take, HN.out]; omega)
          rw [show (b0.take k).length = k by rw [List.length_take, HN.out]; omega] at h
          exact h
        go_wp2_with fail
        refine (CLk.out _ HF12.out.own1.ints).mono ?_
        rintro e w13 ⟨y13, f13, rfl, ho13, hb13⟩
        rw [HLT.out]
        have HF13 := Lib.hid (HF12.out.then_ hb13)
        have C13 : Hid (Calls Tryd.prog 38 #[.int .i64 sec, .slice (some ⟨y13, 0, none⟩) k f13] w13 fun e w' => e = .returned (.tuple #[headV (madeL sec (leafL (b0.take k))) (madeD sec (leafL (b0.take k))) (madeS sec (leafL (b0.take k))), .bool (madeOk sec (leafL (b0.take k)))]) ∧ Below w13.heap.size w13 w') := by
          have h := smake_any sec (leafL (b0.take k)) y13 0 f13 w13 ho13.ints ho13.le.1 ho13.le.2
          rw [HLT.out] at h
          exact h
        obtain ⟨r1, Hr1⟩ : ∃ x, Hid (madeL sec (leafL (b0.take k)) = x) := ⟨_, rfl⟩
        obtain ⟨r2, Hr2⟩ : ∃ x, Hid (madeD sec (leafL (b0.take k)) = x) := ⟨_, rfl⟩
        obtain ⟨r3, Hr3⟩ : ∃ x, Hid (madeS sec (leafL (b0.take k)) = x) := ⟨_, rfl⟩
        obtain ⟨r4, Hr4⟩ : ∃ x, Hid (madeOk sec (leafL (b0.take k)) = x) := ⟨_, rfl⟩
        rw [Hr1.out, Hr2.out, Hr3.out, Hr4.out] at C13
        clear hb13 ho13
        go_wp2_with fail
        refine C13.out.mono ?_
        rintro e w14 ⟨rfl, hb14⟩
        have HF14 := Lib.hid (HF13.out.then_ hb14)
        clear hb14
        have j0 : w14.cell? ⟨gh, 0, none⟩ = some _ := HF14.out.kh.cell 0
        have j1 : w14.cell? ⟨gh, 1, none⟩ = some _ := HF14.out.kh.cell 1
        have j2 : w14.cell? ⟨gh, 2, none⟩ = some _ := HF14.out.kh.cell 2
        have jf := blk_frozen HF14.out.kh
        have HF15 := Lib.hid (HF14.out.set3 r1 r2 r3)
        go_wp2_with fail
        go_meet
        exact ⟨_, _, _, _, _, _, _, rfl, HF15⟩
      · have t1' : ((t : Int) == 1) = false := by rw [beq_eq_false_iff_ne]; omega
        by_cases t2 : t = 2
        · subst t2
          go_wp2_with fail
          refine (drawdig_any HF11.out.rd (by omega)).mono ?_
          rintro e w12 ⟨y, q12, hy1, hy2, hq12, rfl, hR12, hb12, hg12⟩
          have HF12 := Lib.hid (HF11.out.pick hR12 hg12)
          clear hR12 hg12 hb12
          have j1 : w12.cell? ⟨gh, 1, none⟩ = some _ := HF12.out.kh.cell 1
          have jf := blk_frozen HF12.out.kh
          have HF13 := Lib.hid (HF12.out.seth y).2.1
          go_wp2_with fail
          go_meet
          exact ⟨_, _, _, _, _, _, _, rfl, HF13⟩
        · have t2' : ((t : Int) == 2) = false := by rw [beq_eq_false_iff_ne]; omega
          by_cases t3 : t = 3
          · subst t3
            go_wp2_with fail
            refine (bendG_any HF11.out.rd (by omega) G cg gz HF11.out.growth.ints HF11.out.few HF11.out.growth.none0).mono ?_
            rintro e w12 ⟨G2, cg2, gz2, q12, rfl, hgl, hq12, hD12⟩
            have HF12 := Lib.hid ((HF11.out.pick hD12.rd hD12.grown).grow (hD12.own.base_le (by have := HF11.out.kf.lt; have := HF11.out.bigf; omega)) (by omega))
            clear hD12
            go_wp2_with fail
            go_meet
            exact ⟨_, _, _, _, _, _, _, rfl, HF12⟩
          · have t3' : ((t : Int) == 3) = false := by rw [beq_eq_false_iff_ne]; omega
            by_cases t45 : t = 4 ∨ t = 5
            · go_upto_if 81 with fail
              go_cut [81] (fun s81 wx => s81 = .bool true ∧ w11 = wx)
              case first =>
                by_cases t4 : t = 4
                · subst t4
                  go_wp2_with fail
                  go_meet
                  exact ⟨rfl, rfl⟩
                · have t4' : ((t : Int) == 4) = false := by rw [beq_eq_false_iff_ne]; omega
                  have t5 : t = 5 := by omega
                  subst t5
                  go_wp2_with fail
                  go_meet
                  exact ⟨rfl, rfl⟩
              case rest =>
              obtain ⟨rfl, rfl⟩ := hcut
              have HLT1 : Hid (bX < w11.heap.size) := (owns_lt HF11.out.own1 bX rfl).2
              have HLT2 : Hid (∀ g, A1 = some ⟨g, 0, none⟩ → g < w11.heap.size) := fun g hg => (owns_lt HF11.out.feed.strs g hg).2
              have HLT3 : Hid (∀ g, A2 = some ⟨g, 0, none⟩ → g < w11.heap.size) := fun g hg => (ownb_lt HF11.out.feed.bits g hg).2
              have HLT4 : Hid (∀ g, G = some ⟨g, 0, none⟩ → g < w11.heap.size) := fun g hg => (own_lt HF11.out.growth g hg).2
              have HLT5 : Hid (gf < w11.heap.size) := HF11.out.kf.lt
              have HLT6 : Hid (gh < w11.heap.size) := HF11.out.kh.lt
              have HLT7 : Hid (w.heap.size + 1 + 1 + 1 ≤ w11.heap.size) := by show _ ≤ _; have := HF11.out.rd.lt; omega
              go_upto_region 19 with fail
              go_cut [13] (fun s13 wx => ∃ (Y e3 : Nat), s13 = .slice (some ⟨Y, 0, none⟩) n e3 ∧ Hid (Fh w A len' cap' (q6 + 1) (some ⟨bX, 0, none⟩) c b0 gf p l d s A1 c1 A2 c2 bs hs gh a1 a2 a3 G cg gz wx) ∧ Hid (OwnStrs wx w11.heap.size (some ⟨Y, 0, none⟩) e3 b0))
              case first =>
                by_cases hn0 : n = 0
                · subst hn0
                  have HNL : Hid (b0 = []) := List.eq_nil_of_length_eq_zero HN.out
                  go_wp2_with (at_builtin; refine wpList_app_nothingS rfl (.tmp 84) (.tmp 85) rfl _ w11.heap.size 0 rfl _ c rfl ?_)
                  go_meet
                  exact ⟨w11.heap.size, 0, rfl, HF11.out.then_ ((Below.refl _ w11).alloc (Nat.le_refl _) _), by show OwnStrs _ _ _ _ _; rw [HNL.out]; exact OwnStrs.new w11⟩
                · go_wp2_with (at_builtin; refine wpList_app_strs rfl (.tmp 84) (.tmp 85) rfl _ w11.heap.size _ _ [] rfl (some ⟨bX, 0, none⟩) c b0 (by rw [HN.out]; rfl) (OwnStrs.new w11) (HF11.out.own1.ints.allocS _) (by rw [HN.out]; simp; omega) (by simp) (by intro e; cases e) ?_; intro v w12 hA; rw [List.nil_append] at hA; obtain ⟨⟨Y, e3, rfl, ho3⟩, hg3, hb3⟩ := hA; obtain ⟨y, hY⟩ := owns_at ho3 (by rw [HN.out]; omega); subst hY; have HF12 := Lib.hid (HF11.out.then_ (((Below.refl _ w11).alloc (Nat.le_refl _) _).trans hb3)); have HY12 := Lib.hid ho3; clear ho3 hg3 hb3; rw [HN.out])
                  go_meet
                  exact ⟨y, e3, rfl, HF12, HY12⟩
              case rest =>
              obtain ⟨Y, e3, rfl, HF12, HY12⟩ := hcut
              clear HF11
              have HYK : Hid (w11.heap.size ≤ Y) := (owns_lt HY12.out Y rfl).1
              go_upto_if 89 with fail
              go_cut [] (fun wx => ∃ (ys : List ByteArray) (q' : Nat), q' ≤ q6 + 2 ∧ Hid (ys.length = n) ∧ Hid (∀ x ∈ ys, x.size ≤ 8) ∧ Hid (Fh w A len' cap' q' (some ⟨bX, 0, none⟩) c b0 gf p l d s A1 c1 A2 c2 bs hs gh a1 a2 a3 G cg gz wx) ∧ Hid (OwnStrs wx w11.heap.size (some ⟨Y, 0, none⟩) e3 ys))
              case first =>
                by_cases hn0 : n = 0
                · subst hn0
                  go_wp2_with fail
                  go_meet
                  exact ⟨b0, q6 + 1, by omega, HN, HSH, HF12, HY12⟩
                · have hnp : (0 : Int) < (n : Int) := by omega
                  have hnd : decide (0 < n) = true := by simp; omega
                  go_wp2_with fail
                  refine (pick_any n HF12.out.rd (by omega) (by omega) (by omega)).mono ?_
                  rintro e w13 ⟨j, hj, rfl, hR13, hg13, hz13⟩
                  have HF13 := Lib.hid (HF12.out.pick hR13 hg13)
                  have HY13 : Hid (OwnStrs w13 w11.heap.size (some ⟨Y, 0, none⟩) e3 b0) := owns_keep HY12.out hg13 (fun k hk => by injection hk with hk; have := HLT7.out; omega)
                  clear hR13 hg13 hz13
                  have hjz : j < b0.length := by rw [HN.out]; omega
                  obtain ⟨hcx, hfx⟩ := owns_cell HY13.out j hjz
                  have hji : (j : Int) < (n : Int) := by omega
                  have HF14 := Lib.hid (HF13.out.put HYK.out HLT7.out (fun g hg => by injection hg with hg; injection hg with hg _ _; subst hg; exact HLT1.out) HLT2.out HLT3.out HLT4.out HLT5.out HLT6.out j ⟨#[102, 111, 114, 107]⟩)
                  have HY14 := Lib.hid (owns_stored HY13.out j ⟨#[102, 111, 114, 107]⟩).1
                  have HSN : Hid (∀ x ∈ b0.set j ⟨#[102, 111, 114, 107]⟩, x.size ≤ 8) := fun x hx => by
                    rcases List.mem_or_eq_of_mem_set hx with hx | hx
                    · exact HSH.out x hx
                    · subst hx; decide
                  clear hjz
                  go_wp2_with fail
                  go_meet
                  exact ⟨b0.set j ⟨#[102, 111, 114, 107]⟩, _, by omega, (by show _ = _; rw [List.length_set]; exact HN.out), HSN, HF14, HY14⟩
              case rest =>
              obtain ⟨ys, q13, hq13, HNY, HSY, HF13, HY13⟩ := hcut
              clear HF12 HY12
              go_wp2_with fail
              refine (pick_any 2 HF13.out.rd (by omega) (by omega) (by omega)).mono ?_
              rintro e w14 ⟨t14, ht14, rfl, hR14, hg14, hz14⟩
              have HF14 := Lib.hid (HF13.out.pick hR14 hg14)
              have HY14 : Hid (OwnStrs w14 w11.heap.size (some ⟨Y, 0, none⟩) e3 ys) := owns_keep HY13.out hg14 (fun k hk => by injection hk with hk; have := HLT7.out; omega)
              clear hR14 hg14 hz14 HF13 HY13
              go_upto_if 98 with fail
              go_cut [13] (fun s13 wx => ∃ j : Nat, s13 = .slice (some ⟨Y, 0, none⟩) j e3 ∧ j ≤ n ∧ m ≤ j ∧ w14 = wx)
              case first =>
                by_cases t0 : t14 = 0
                · subst t0
                  have hcl := HY14.out.le
                  rw [HNY.out] at hcl
                  have hc64 := hcl.2
                  unfold maxLen at hc64
                  have hji : (m : Int) ≤ (e3 : Int) := by omega
                  go_wp2_with fail
                  go_meet
                  exact ⟨m, by simp, hmn, Nat.le_refl _, rfl⟩
                · have ht0' : ((t14 : Int) == 0) = false := by rw [beq_eq_false_iff_ne]; omega
                  go_wp2_with fail
                  go_meet
                  exact ⟨n, rfl, Nat.le_refl _, hmn, rfl⟩
              case rest =>
              obtain ⟨j, rfl, hjn, hmj, rfl⟩ := hcut
              have HLT : Hid ((leafL (ys.take j)).length = j) := by show _ = _; rw [leafL_length, List.length_take, HNY.out]; omega
              have HSK : Hid (Short (ys.take j)) := fun i hi => by
                rw [sth_get _ i hi, List.getElem_take]
                exact HSY.out _ (List.getElem_mem _)
              have CLk : Hid (∀ U, StrsAt U U.heap.size (some ⟨Y, 0, none⟩) ys → Calls Tryd.prog 39 #[.slice (some ⟨Y, 0, none⟩) j e3] U (RetSome U (leafL (ys.take j)))) := fun U hU => by
                have h := sleaves_some (some ⟨Y, 0, none⟩) e3 (ys.take j) U (hU.first j) HSK.out (by rw [List.length_take, HNY.out]; omega)
                rw [show (ys.take j).length = j by rw [List.length_take, HNY.out]; omega] at h
                exact h
              go_wp2_with fail
              refine (CLk.out _ HY14.out.ints).mono ?_
              rintro e w13 ⟨y13, f13, rfl, ho13, hb13⟩
              rw [HLT.out]
              have HF13 := Lib.hid (HF14.out.then_ hb13)
              have HY14b := Lib.hid (HY14.out.below hb13)
              have C13 : Hid (Calls Tryd.prog 38 #[.int .i64 sec, .slice (some ⟨y13, 0, none⟩) j f13] w13 fun e w' => e = .returned (.tuple #[headV (madeL sec (leafL (ys.take j))) (madeD sec (leafL (ys.take j))) (madeS sec (leafL (ys.take j))), .bool (madeOk sec (leafL (ys.take j)))]) ∧ Below w13.heap.size w13 w') := by
                have h := smake_any sec (leafL (ys.take j)) y13 0 f13 w13 ho13.ints ho13.le.1 ho13.le.2
                rw [HLT.out] at h
                exact h
              obtain ⟨r1, Hr1⟩ : ∃ x, Hid (madeL sec (leafL (ys.take j)) = x) := ⟨_, rfl⟩
              obtain ⟨r2, Hr2⟩ : ∃ x, Hid (madeD sec (leafL (ys.take j)) = x) := ⟨_, rfl⟩
              obtain ⟨r3, Hr3⟩ : ∃ x, Hid (madeS sec (leafL (ys.take j)) = x) := ⟨_, rfl⟩
              obtain ⟨r4, Hr4⟩ : ∃ x, Hid (madeOk sec (leafL (ys.take j)) = x) := ⟨_, rfl⟩
              rw [Hr1.out, Hr2.out, Hr3.out, Hr4.out] at C13
              clear hb13 ho13
              go_wp2_with fail
              refine C13.out.mono ?_
              rintro e w14' ⟨rfl, hb14⟩
              have HF14 := Lib.hid (HF13.out.then_ hb14)
              have HY14c := Lib.hid (HY14b.out.below hb14)
              clear hb14
              have j0 : w14'.cell? ⟨gh, 0, none⟩ = some _ := HF14.out.kh.cell 0
              have j1 : w14'.cell? ⟨gh, 1, none⟩ = some _ := HF14.out.kh.cell 1
              have j2 : w14'.cell? ⟨gh, 2, none⟩ = some _ := HF14.out.kh.cell 2
              have jf := blk_frozen HF14.out.kh
              have HF15 := Lib.hid (HF14.out.set3 r1 r2 r3)
              have HY15 : Hid (OwnStrs (((w14'.setCell ⟨gh, 0, none⟩ (.int .i64 r1)).setCell ⟨gh, 1, none⟩ (.int .i64 r2)).setCell ⟨gh, 2, none⟩ (.int .i64 r3)) w11.heap.size (some ⟨Y, 0, none⟩) e3 ys) := owns_block HY14c.out fun y hy => by
                have h1 := HYK.out
                have h2 := HLT6.out
                have h3 : y ≠ gh := by injection hy with hy; injection hy with hy _ _; omega
                rw [Below.heap_setCell _ ⟨gh, 2, none⟩ _ y h3, Below.heap_setCell _ ⟨gh, 1, none⟩ _ y h3, Below.heap_setCell _ ⟨gh, 0, none⟩ _ y h3]
              obtain ⟨D, HD⟩ : ∃ D, Hid (((w14'.setCell ⟨gh, 0, none⟩ (.int .i64 r1)).setCell ⟨gh, 1, none⟩ (.int .i64 r2)).setCell ⟨gh, 2, none⟩ (.int .i64 r3) = D) := ⟨_, rfl⟩
              rw [HD.out] at HF15 HY15
              go_upto_region 25 with fail
              rw [HD.out]
              clear j0 j1 j2 jf
              go_wp2_with fail
              refine (CLk.out _ HY15.out.ints).mono ?_
              rintro e w16 ⟨y16, f16, rfl, ho16, hb16⟩
              rw [HLT.out]
              have HF16 := Lib.hid (HF15.out.then_ hb16)
              have hbig : w.heap.size + 1 + 1 + 1 ≤ w16.heap.size := by have := HF16.out.kh.lt; have := HF16.out.bigh; omega
              have C16 : Hid (Calls Tryd.prog 40 #[.slice (some ⟨y16, 0, none⟩) j f16, .int .i64 (m : Int)] w16 (RetInts w16 (growthOr (leafL (ys.take j)) (m : Int)))) := by
                have h := sgrowth_any (leafL (ys.take j)) (m : Int) y16 0 f16 w16 ho16.ints ho16.le.1 ho16.le.2
                rw [HLT.out] at h
                exact h
              have hmj' : (m : Int) ≤ (j : Int) := by omega
              have hmin : min (m : Int) (j : Int) = (m : Int) := Int.min_eq_left hmj'
              clear hb16 ho16
              go_wp2_with fail
              refine C16.out.mono ?_
              rintro e w17 ⟨G2, cg2, rfl, ho17, hb17⟩
              have HF17 := Lib.hid ((HF16.out.then_ hb17).grow (ho17.base_le hbig) (by have := growthOr_34 (leafL (ys.take j)) (m : Int); omega))
              clear ho17 hb17
              go_wp2_with fail
              go_meet
              exact ⟨_, _, _, _, _, _, _, rfl, HF17⟩
            · have t4' : ((t : Int) == 4) = false := by rw [beq_eq_false_iff_ne]; omega
              have t5' : ((t : Int) == 5) = false := by rw [beq_eq_false_iff_ne]; omega
              go_wp2_with fail
              go_meet
              exact ⟨_, _, _, _, _, _, _, rfl, HF11⟩
  case rest =>
  obtain ⟨G', cg', gz', x, y, z, q', rfl, HFc⟩ := hcut
  obtain ⟨k0, k1, k2, k3, k4, k5⟩ := feed_cells HFc.out.kf
  have j0 : wc.cell? ⟨gh, 0, none⟩ = some (.int .i64 x) := HFc.out.kh.cell 0
  have j1 : wc.cell? ⟨gh, 1, none⟩ = some (.int .i64 y) := HFc.out.kh.cell 1
  have j2 : wc.cell? ⟨gh, 2, none⟩ = some (.int .i64 z) := HFc.out.kh.cell 2
  obtain ⟨r0, r1, r2, r3, r4, r5⟩ := feed_cells HFc.out.ka
  have rf := blk_frozen HFc.out.ka
  have s0 : wc.cell? ⟨w.heap.size + 1, 0, none⟩ = some (.int .i64 0) := HFc.out.kb.cell 0
  have s1 : wc.cell? ⟨w.heap.size + 1, 1, none⟩ = some (.int .i64 0) := HFc.out.kb.cell 1
  have s2 : wc.cell? ⟨w.heap.size + 1, 2, none⟩ = some (.int .i64 0) := HFc.out.kb.cell 2
  have sf := blk_frozen HFc.out.kb
  have hne1 : w.heap.size ≠ gf := by have := HFc.out.bigf; omega
  have hne2 : w.heap.size ≠ gh := by have := HFc.out.bigh; omega
  have hne3 : gf ≠ w.heap.size := fun e => hne1 e.symm
  have hne4 : gh ≠ w.heap.size := fun e => hne2 e.symm
  have hne5 : gh ≠ w.heap.size + 1 := by have := HFc.out.bigh; omega
  have hne6 : gf ≠ w.heap.size + 1 := by have := HFc.out.bigf; omega
  have hne7 : w.heap.size ≠ w.heap.size + 1 := by omega
  go_wp2_with fail
  go_region
  go_wp2
  obtain ⟨U9, HU9⟩ : ∃ U9, Hid (((((((wc.setCell ⟨w.heap.size, 0, none⟩ (.int .i64 p)).setCell ⟨w.heap.size, 1, none⟩ (.int .i64 l)).setCell ⟨w.heap.size, 2, none⟩ (.int .i64 d)).setCell ⟨w.heap.size, 3, none⟩ (.int .i64 s)).setCell ⟨w.heap.size, 4, none⟩ (.slice A1 bs.length c1)).setCell ⟨w.heap.size, 5, none⟩ (.slice A2 hs.length c2)) = U9) := ⟨_, rfl⟩
  have KAU : Hid (Blk U9 w.heap.size 28 (feedC p l d s A1 bs.length c1 A2 hs.length c2)) := by rw [← HU9.out]; exact blk_six HFc.out.ka _ _ _ _ _ _
  have hkU : ∀ i, i ≠ w.heap.size → U9.heap[i]? = wc.heap[i]? := fun i hi => by
    rw [← HU9.out]
    rw [Below.heap_setCell _ ⟨w.heap.size, 5, none⟩ _ i hi, Below.heap_setCell _ ⟨w.heap.size, 4, none⟩ _ i hi, Below.heap_setCell _ ⟨w.heap.size, 3, none⟩ _ i hi, Below.heap_setCell _ ⟨w.heap.size, 2, none⟩ _ i hi, Below.heap_setCell _ ⟨w.heap.size, 1, none⟩ _ i hi, Below.heap_setCell _ ⟨w.heap.size, 0, none⟩ _ i hi]
  have KBU : Hid (Blk U9 (w.heap.size + 1) 24 #[.int .i64 0, .int .i64 0, .int .i64 0]) := (hkU (w.heap.size + 1) (by omega)).trans HFc.out.kb
  have HAU : Hid (OwnFeed U9 (w.heap.size + 1 + 1 + 1) A1 c1 A2 c2 bs hs) := by rw [← HU9.out]; exact own_six HFc.out.feed HFc.out.ka _ _ _ _ _ _
  have HGU : Hid (OwnInts U9 (w.heap.size + 1 + 1 + 1) G' cg' gz') := own_block HFc.out.growth fun i hi => hkU i (by have := (own_lt HFc.out.growth i hi).1; omega)
  have HLU : Hid (Below w.heap.size w U9) := by rw [← HU9.out]; exact below_six HFc.out.below (Nat.le_refl _) _ _ _ _ _ _
  clear hkU
  rw [HU9.out]
  obtain ⟨T9, HT9⟩ : ∃ T9, Hid ((((U9.setCell ⟨w.heap.size + 1, 0, none⟩ (.int .i64 x)).setCell ⟨w.heap.size + 1, 1, none⟩ (.int .i64 y)).setCell ⟨w.heap.size + 1, 2, none⟩ (.int .i64 z)).drew = T9) := ⟨_, rfl⟩
  have hkT : ∀ i, i ≠ w.heap.size + 1 → T9.heap[i]? = U9.heap[i]? := fun i hi => by
    rw [← HT9.out]
    show (((U9.setCell ⟨w.heap.size + 1, 0, none⟩ (.int .i64 x)).setCell ⟨w.heap.size + 1, 1, none⟩ (.int .i64 y)).setCell ⟨w.heap.size + 1, 2, none⟩ (.int .i64 z)).heap[i]? = _
    rw [Below.heap_setCell _ ⟨w.heap.size + 1, 2, none⟩ _ i hi, Below.heap_setCell _ ⟨w.heap.size + 1, 1, none⟩ _ i hi, Below.heap_setCell _ ⟨w.heap.size + 1, 0, none⟩ _ i hi]
  have KBT : Hid (Blk T9 (w.heap.size + 1) 24 #[.int .i64 x, .int .i64 y, .int .i64 z]) := by rw [← HT9.out]; exact ((KBU.out.setOwn 0 _).setOwn 1 _).setOwn 2 _
  have KAT : Hid (Blk T9 w.heap.size 28 (feedC p l d s A1 bs.length c1 A2 hs.length c2)) := (hkT w.heap.size (by omega)).trans KAU.out
  have HAT : Hid (OwnFeed T9 (w.heap.size + 1 + 1 + 1) A1 c1 A2 c2 bs hs) := ⟨owns_block HAU.out.strs fun i hi => hkT i (by have := (owns_lt HAU.out.strs i hi).1; omega), ownb_block HAU.out.bits fun i hi => hkT i (by have := (ownb_lt HAU.out.bits i hi).1; omega), HAU.out.fit⟩
  have HGT : Hid (OwnInts T9 (w.heap.size + 1 + 1 + 1) G' cg' gz') := own_block HGU.out fun i hi => hkT i (by have := (own_lt HGU.out i hi).1; omega)
  have HLT : Hid (Below w.heap.size w T9) := by rw [← HT9.out]; exact below_drew (((HLU.out.setCell (p := ⟨w.heap.size + 1, 0, none⟩) (by show w.heap.size ≤ w.heap.size + 1; omega) _).setCell (p := ⟨w.heap.size + 1, 1, none⟩) (by show w.heap.size ≤ w.heap.size + 1; omega) _).setCell (p := ⟨w.heap.size + 1, 2, none⟩) (by show w.heap.size ≤ w.heap.size + 1; omega) _)
  rw [HT9.out]
  clear hkT
  obtain ⟨y0, y1, y2, y3, y4, y5⟩ := feed_cells KAT.out
  have x0 : T9.cell? ⟨w.heap.size + 1, 0, none⟩ = some (.int .i64 x) := KBT.out.cell 0
  have x1 : T9.cell? ⟨w.heap.size + 1, 1, none⟩ = some (.int .i64 y) := KBT.out.cell 1
  have x2 : T9.cell? ⟨w.heap.size + 1, 2, none⟩ = some (.int .i64 z) := KBT.out.cell 2
  exact bodyPost_ret (v := .tuple #[feedV p l d s A1 bs.length c1 A2 hs.length c2, headV x y z, .slice G' gz'.length cg']) (by simp [results, Tryd.results11, go_sem, y0, y1, y2, y3, y4, y5, x0, x1, x2]) rfl ⟨_, _, _, _, _, _, _, _, bs, hs, _, _, _, _, _, gz', rfl, HAT.out.base_le (by omega), HGT.out.base_le (by omega), hlb, hlh, HLT.out⟩

end Go.Proofs.YtlpdoieiiadhhaaDoor
