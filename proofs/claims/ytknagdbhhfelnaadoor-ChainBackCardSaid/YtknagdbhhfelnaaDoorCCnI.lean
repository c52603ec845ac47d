/-
  Package chain's Read: its memory. Conditions: none.
-/
import Derived.Test.YtknagdbhhfelnaaDoorCCnH
import Derived.Test.YtknagdbhhfelnaaDoorCLoopE
namespace Go.Proofs.YtknagdbhhfelnaaDoor
open Go.RowKit Go.Shelf Go.Maps
set_option maxRecDepth 100000
set_option linter.unusedVariables false

/-- What the loop of Read never writes: boxes of its arguments, those of links, the pool. q: the first of the boxes of b, pages, fault; the loop's own blocks are q + 7, q + 8. -/
structure RdFix (w W : World) (T0 : Nat → Prop) (p d fb n m : Nat) (has : Nat → List UInt8) (q k head most : Nat) (T : Nat → Prop) : Prop where
  bm : SBox W w.heap.size 3 [.int .i64 (most : Int)]
  cp : SBox W (q + 3) 33 [.pointer (some ⟨p, 0, none⟩)]
  ck : SBox W (q + 4) 3 [.int .i64 (k : Int)]
  ch : SBox W (q + 5) 3 [.int .i64 (head : Int)]
  cf : SBox W (q + 6) 69 [.pointer (some ⟨q + 2, 0, none⟩)]
  pool : PlT W T p d fb n m has
  tf : ∀ j, T j → j < w.heap.size ∨ q + 9 ≤ j
  mo : ∀ j, T j → more T0 w W j
  tr : Trn T0 w W
  sq : w.heap.size < q
/-- What it writes: er: the fault; bs: the bytes; pg: the pages. -/
structure RdVar (W : World) (q er : Nat) (bs : List UInt8) (pg : List Nat) (T : Nat → Prop) (bv pv : Value) : Prop where
  bb : SBox W q 27 [bv]
  ob : Own W (q + 9) 5 bv bs
  bp : SBox W (q + 1) 26 [pv]
  op : OwnV W (q + 9) 3 pv (natC pg)
  bf : SBox W (q + 2) 23 [.int .i64 (er : Int)]
  bo : ∀ g, bv.ownBlock = some g → ¬ T g
  po : ∀ g, pv.ownBlock = some g → ¬ T g
section
variable {w W W' : World} {T0 T T1 : Nat → Prop} {p d fb n m q k head most er : Nat} {has : Nat → List UInt8} {bs : List UInt8} {pg : List Nat} {bv pv : Value}
theorem SBox.trn {g : Nat} {t : TypeId} {cs : List Value} (h : SBox W g t cs) (ht : Trn T W W') (hn : ¬ T g) : SBox W' g t cs := h.same (ht.block g h.lt hn)
theorem row_trn {B k : Nat} {e : TypeId} {v : Value} {xs : List Value} (h : W.ownsRow B e 1 v k xs) (ht : Trn T W W') (hn : ∀ g, v.ownBlock = some g → ¬ T g) : W'.ownsRow B e 1 v k xs := by
  refine ⟨h.1, ?_⟩
  rcases h.2 with h0 | ⟨g, cap, cur, rfl, hb, hg, r⟩
  · exact .inl h0
  · exact .inr ⟨g, cap, cur, rfl, hb, (ht.block g (Array.getElem?_eq_some_iff.1 hg).1 (hn g rfl)).trans hg, r⟩
theorem ownB_trn {B : Nat} {v : Value} {l : List UInt8} (h : Own W B 5 v l) (ht : Trn T W W') (hn : ∀ g, v.ownBlock = some g → ¬ T g) : Own W' B 5 v l := row_trn h ht hn
theorem ownV_trn {B : Nat} {e : TypeId} {v : Value} {l : List Value} (h : OwnV W B e v l) (ht : Trn T W W') (hn : ∀ g, v.ownBlock = some g → ¬ T g) : OwnV W' B e v l := row_trn h ht hn
theorem RdFix.sz (h : RdFix w W T0 p d fb n m has q k head most T) : q + 6 < W.heap.size := h.cf.lt
/-- A step of the loop's body. -/
theorem RdFix.step {Y : Nat → Prop} (h : RdFix w W T0 p d fb n m has q k head most T) (ht : Trn Y W W') (hY : ∀ j, Y j → j = q ∨ j = q + 1 ∨ j = q + 2 ∨ (q + 9 ≤ j ∧ ¬ T j)) : RdFix w W' T0 p d fb n m has q k head most T := by
  have hs := h.sq
  refine ⟨h.bm.trn ht (fun e => ?_), h.cp.trn ht (fun e => ?_), h.ck.trn ht (fun e => ?_), h.ch.trn ht (fun e => ?_), h.cf.trn ht (fun e => ?_), h.pool.trn ht (fun j hj e => ?_), h.tf, fun j hj => ?_, h.tr.trans ht (fun j hj e => ?_), hs⟩
  · have := hY _ e; omega
  · have := hY _ e; omega
  · have := hY _ e; omega
  · have := hY _ e; omega
  · have := hY _ e; omega
  · have h1 := hY _ e
    have h2 := h.tf j hj
    rcases h1 with h1 | h1 | h1 | h1
    · omega
    · omega
    · omega
    · exact h1.2 hj
  · rcases h.mo j hj with h1 | h1
    · exact .inl h1
    · exact .inr ⟨h1.1, Nat.lt_of_lt_of_le h1.2 ht.size⟩
  · have := hY _ e; omega
theorem RdFix.book {Y : Nat → Prop} (h : RdFix w W T0 p d fb n m has q k head most T) (hb : q + 8 < W.heap.size) (ht : Trn Y W W') (hY : ∀ j, Y j → j = q ∨ j = q + 1 ∨ j = q + 2 ∨ (q + 9 ≤ j ∧ ¬ T j)) : BookSame (q + 7) W W' := fun j h1 h2 =>
  ht.block j (by omega) (fun e => by have := hY j e; omega)
/-- New blocks alone. -/
theorem RdFix.below (h : RdFix w W T0 p d fb n m has q k head most T) (hb : Below W.heap.size W W') : RdFix w W' T0 p d fb n m has q k head most T := h.step (Y := fun _ => False) (Trn.of_below hb) (fun _ f => f.elim)
theorem RdVar.below (h : RdVar W q er bs pg T bv pv) (hb : Below W.heap.size W W') : RdVar W' q er bs pg T bv pv := ⟨h.bb.below hb, h.ob.keep hb, h.bp.below hb, h.op.keep hb, h.bf.below hb, h.bo, h.po⟩
theorem book_below {B : Nat} (hB : B + 1 < W.heap.size) (hb : Below W.heap.size W W') : BookSame B W W' := fun j h1 h2 => hb.block j (by omega)
/-- A call on the pool. -/
theorem RdFix.get (h : RdFix w W T0 p d fb n m has q k head most T) (ht : Trn T W W') (hp : PlT W' T1 p d fb n m has) (hm : ∀ j, T1 j → more T W W' j) (hz : q + 8 < W.heap.size) : RdFix w W' T0 p d fb n m has q k head most T1 ∧ BookSame (q + 7) W W' := by
  have hs := h.sq
  refine ⟨⟨h.bm.trn ht (fun e => ?_), h.cp.trn ht (fun e => ?_), h.ck.trn ht (fun e => ?_), h.ch.trn ht (fun e => ?_), h.cf.trn ht (fun e => ?_), hp, fun j hj => ?_, fun j hj => ?_, h.tr.trans ht (fun j hj e => ?_), hs⟩, fun j h1 h2 => ?_⟩
  · have := h.tf _ e; omega
  · have := h.tf _ e; omega
  · have := h.tf _ e; omega
  · have := h.tf _ e; omega
  · have := h.tf _ e; omega
  · rcases hm j hj with h1 | h1
    · exact h.tf j h1
    · exact .inr (by omega)
  · rcases hm j hj with h1 | h1
    · rcases h.mo j h1 with h2 | h2
      · exact .inl h2
      · exact .inr ⟨h2.1, Nat.lt_of_lt_of_le h2.2 ht.size⟩
    · exact .inr ⟨by have := h.tr.size; omega, h1.2⟩
  · rcases h.mo j e with h2 | h2
    · exact h2
    · omega
  · exact ht.block j (by omega) (fun e => by have := h.tf j e; omega)
theorem RdVar.get (h : RdVar W q er bs pg T bv pv) (hf : RdFix w W T0 p d fb n m has q k head most T) (ht : Trn T W W') (hm : ∀ j, T1 j → more T W W' j) : RdVar W' q er bs pg T1 bv pv := by
  have hs := hf.sq
  refine ⟨h.bb.trn ht (fun e => ?_), ownB_trn h.ob ht h.bo, h.bp.trn ht (fun e => ?_), ownV_trn h.op ht h.po, h.bf.trn ht (fun e => ?_), fun g hg e => ?_, fun g hg e => ?_⟩
  · have := hf.tf _ e; omega
  · have := hf.tf _ e; omega
  · have := hf.tf _ e; omega
  · rcases hm g e with h1 | h1
    · exact h.bo g hg h1
    · have := (World.ownsRow.lt h.ob g hg).2; omega
  · rcases hm g e with h1 | h1
    · exact h.po g hg h1
    · have := (World.ownsRow.lt h.op g hg).2; omega
theorem trn_putObj (o : Obj) (j : Nat) : Trn (fun i => i = j) W (W.putObj j o) := Trn.of_grown (grownBy_putObj' W j o) (fun i e => by cases e; rfl)
/-- The loop's record turned. -/
theorem RdFix.calm (h : RdFix w W T0 p d fb n m has q k head most T) (o : Obj) (j : Nat) (hj : j = q + 7 ∨ j = q + 8) : RdFix w (W.putObj j o) T0 p d fb n m has q k head most T := by
  have hs := h.sq
  have ht := trn_putObj (W := W) o j
  refine ⟨h.bm.trn ht (fun e => by omega), h.cp.trn ht (fun e => by omega), h.ck.trn ht (fun e => by omega), h.ch.trn ht (fun e => by omega), h.cf.trn ht (fun e => by omega), h.pool.trn ht (fun i hi e => ?_), h.tf, fun i hi => ?_, h.tr.trans ht (fun i hi e => by omega), hs⟩
  · have := h.tf i hi; omega
  · rcases h.mo i hi with h1 | h1
    · exact .inl h1
    · exact .inr ⟨h1.1, Nat.lt_of_lt_of_le h1.2 ht.size⟩
theorem RdVar.calm (h : RdVar W q er bs pg T bv pv) (o : Obj) (j : Nat) (hj : j = q + 7 ∨ j = q + 8) : RdVar (W.putObj j o) q er bs pg T bv pv := by
  have ht := trn_putObj (W := W) o j
  exact ⟨h.bb.trn ht (fun e => by omega), ownB_trn h.ob ht (fun g hg e => by have := (World.ownsRow.lt h.ob g hg).1; omega), h.bp.trn ht (fun e => by omega), ownV_trn h.op ht (fun g hg e => by have := (World.ownsRow.lt h.op g hg).1; omega), h.bf.trn ht (fun e => by omega), h.bo, h.po⟩
/-- The fault is told. -/
theorem RdVar.setF (h : RdVar W q er bs pg T bv pv) (er' : Nat) : RdVar (W.setCell ⟨q + 2, 0, none⟩ (.int .i64 (er' : Int))) q er' bs pg T bv pv ∧ Trn (fun j => j = q + 2) W (W.setCell ⟨q + 2, 0, none⟩ (.int .i64 (er' : Int))) := by
  have ht : Trn (fun j => j = q + 2) W (W.setCell ⟨q + 2, 0, none⟩ (.int .i64 (er' : Int))) := Trn.of_grown (grown_set _ _ _ _) (fun i e => by cases e; rfl)
  exact ⟨⟨h.bb.trn ht (fun e => by omega), ownB_trn h.ob ht (fun g hg e => by have := (World.ownsRow.lt h.ob g hg).1; omega), h.bp.trn ht (fun e => by omega), ownV_trn h.op ht (fun g hg e => by have := (World.ownsRow.lt h.op g hg).1; omega), h.bf.put 0 _, h.bo, h.po⟩, ht⟩
/-- A page more. -/
theorem RdVar.appP {W3 : World} {tmp : Obj} {pv' : Value} {x : Nat} (h : RdVar W q er bs pg T bv pv) (hf : RdFix w W T0 p d fb n m has q k head most T) (hz : q + 8 < W.heap.size) (hown : OwnV W3 (q + 9) 3 pv' (natC (pg ++ [x]))) (hg : (W.alloc tmp).grownBy W3 pv.ownBlock) (hat : pv'.ownBlock = pv.ownBlock ∨ pv'.ownBlock = some (W.alloc tmp).heap.size) :
    RdVar (W3.setCell ⟨q + 1, 0, none⟩ pv') q er bs (pg ++ [x]) T bv pv' ∧ Trn (fun j => j = q + 1 ∨ pv.ownBlock = some j) W (W3.setCell ⟨q + 1, 0, none⟩ pv') ∧ SBox W3 (q + 1) 26 [pv] := by
  have hn := below_new W tmp
  have t1 : Trn (fun j => pv.ownBlock = some j) W W3 := (Trn.of_below (S := fun j => pv.ownBlock = some j) hn).trans (Trn.of_grown hg (fun i e => e)) (fun _ _ e => e)
  have t2 : Trn (fun j => j = q + 1) W3 (W3.setCell ⟨q + 1, 0, none⟩ pv') := Trn.of_grown (grown_set _ _ _ _) (fun i e => by cases e; rfl)
  have hp9 : ∀ g, pv.ownBlock = some g → q + 9 ≤ g := fun g e => (World.ownsRow.lt h.op g e).1
  have hb9 : ∀ g, bv.ownBlock = some g → q + 9 ≤ g := fun g e => (World.ownsRow.lt h.ob g e).1
  have hbp : ∀ g, bv.ownBlock = some g → ¬ pv.ownBlock = some g := fun g e e2 => by
    obtain ⟨c1, f1, g1⟩ := ownsRow_tag h.ob g e
    obtain ⟨c2, f2, g2⟩ := ownsRow_tag h.op g e2
    rw [g1] at g2
    injection g2 with g2
    injection g2 with _ g2 _
    exact absurd g2 (by decide)
  have hbp3 : SBox W3 (q + 1) 26 [pv] := h.bp.trn t1 (fun e => by have := hp9 _ e; omega)
  refine ⟨⟨(h.bb.trn t1 (fun e => by have := hp9 _ e; omega)).trn t2 (fun e => by omega), ownB_trn (ownB_trn h.ob t1 hbp) t2 (fun g e e2 => by have := hb9 g e; omega), hbp3.put 0 pv', ownV_trn hown t2 (fun g e e2 => by have := (World.ownsRow.lt hown g e).1; omega), (h.bf.trn t1 (fun e => by have := hp9 _ e; omega)).trn t2 (fun e => by omega), h.bo, fun g e => ?_⟩, ?_, hbp3⟩
  · rcases hat with h1 | h1
    · exact h.po g (h1 ▸ e)
    · rw [e] at h1
      have : g = (W.alloc tmp).heap.size := by simpa using h1
      rw [World.size_alloc] at this
      intro hT
      have := hf.pool.lt g hT
      omega
  · exact (t1.wide (fun j e => .inr e)).trans t2 (fun j _ e => .inl e)
/-- A page's bytes more. -/
theorem RdVar.appB {W3 : World} {bv' : Value} {x : List UInt8} (h : RdVar W q er bs pg T bv pv) (hf : RdFix w W T0 p d fb n m has q k head most T) (hz : q + 8 < W.heap.size) (hown : Own W3 (q + 9) 5 bv' (bs ++ x)) (hg : W.grownBy W3 bv.ownBlock) (hat : bv'.ownBlock = bv.ownBlock ∨ bv'.ownBlock = some W.heap.size) :
    RdVar (W3.setCell ⟨q, 0, none⟩ bv') q er (bs ++ x) pg T bv' pv ∧ Trn (fun j => j = q ∨ bv.ownBlock = some j) W (W3.setCell ⟨q, 0, none⟩ bv') ∧ SBox W3 q 27 [bv] := by
  have t1 : Trn (fun j => bv.ownBlock = some j) W W3 := Trn.of_grown hg (fun i e => e)
  have t2 : Trn (fun j => j = q) W3 (W3.setCell ⟨q, 0, none⟩ bv') := Trn.of_grown (grown_set _ _ _ _) (fun i e => by cases e; rfl)
  have hp9 : ∀ g, pv.ownBlock = some g → q + 9 ≤ g := fun g e => (World.ownsRow.lt h.op g e).1
  have hb9 : ∀ g, bv.ownBlock = some g → q + 9 ≤ g := fun g e => (World.ownsRow.lt h.ob g e).1
  have hbp : ∀ g, pv.ownBlock = some g → ¬ bv.ownBlock = some g := fun g e2 e => by
    obtain ⟨c1, f1, g1⟩ := ownsRow_tag h.ob g e
    obtain ⟨c2, f2, g2⟩ := ownsRow_tag h.op g e2
    rw [g1] at g2
    injection g2 with g2
    injection g2 with _ g2 _
    exact absurd g2 (by decide)
  have hbb3 : SBox W3 q 27 [bv] := h.bb.trn t1 (fun e => by have := hb9 _ e; omega)
  refine ⟨⟨hbb3.put 0 bv', ownB_trn hown t2 (fun g e e2 => by have := (World.ownsRow.lt hown g e).1; omega), (h.bp.trn t1 (fun e => by have := hb9 _ e; omega)).trn t2 (fun e => by omega), ownV_trn (ownV_trn h.op t1 hbp) t2 (fun g e e2 => by have := hp9 g e; omega), (h.bf.trn t1 (fun e => by have := hb9 _ e; omega)).trn t2 (fun e => by omega), fun g e => ?_, h.po⟩, ?_, hbb3⟩
  · rcases hat with h1 | h1
    · exact h.bo g (h1 ▸ e)
    · rw [e] at h1
      have : g = W.heap.size := by simpa using h1
      intro hT
      have := hf.pool.lt g hT
      omega
  · exact (t1.wide (fun j e => .inr e)).trans t2 (fun j _ e => .inl e)
end
end Go.Proofs.YtknagdbhhfelnaaDoor
