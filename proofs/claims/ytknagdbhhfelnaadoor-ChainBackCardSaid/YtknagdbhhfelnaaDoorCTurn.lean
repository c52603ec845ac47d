/-
  Loops over an iterator: rows, boxes, what lay ahead, through a turn of a block that is no cells; structs and cells written within a fence. Conditions: none.
-/
import Derived.Test.YtknagdbhhfelnaaDoorCSBx
import Derived.Test.YtknagdbhhfelnaaDoorCRowV
import Derived.RangeFuncNested
import Derived.RangeFuncBound
import Derived.RangeFuncCalls
import Derived.RangeFuncLeaves
import Derived.RangeFuncBox
import Derived.Shelf.Abstract
import Derived.Shelf.RegionOpen
import Derived.OwnWalkIn
import Derived.TacticsInMore
import Derived.LoopNIn
import Derived.LoopIn
namespace Go.Proofs.YtknagdbhhfelnaaDoor
open Go.RowKit Go.Shelf Go.Maps
set_option maxRecDepth 100000

/-- A row of the call's own lies as it lay where no cells are turned. -/
theorem ownsRow_turn {B : Nat} {e : TypeId} {k : Nat} {xs : List Value} {v : Value} {A C : World} {row : Option Nat} (h : A.ownsRow B e 1 v k xs) (hg : A.grownBy C row) (hr : ∀ r, row = some r → ∃ o : Obj, A.heap[r]? = some o ∧ o.isCells = false) : C.ownsRow B e 1 v k xs := by
  refine World.ownsRow.kept h hg ?_
  rcases h.2 with ⟨rfl, _⟩ | ⟨g, cap, cur, rfl, _, hgb, _⟩
  · exact .inl rfl
  · refine .inr fun e' => ?_
    obtain ⟨o, ho, hc⟩ := hr g (by simpa [Value.ownBlock] using e'.symm)
    rw [hgb] at ho
    cases ho
    cases hc
theorem below_turn {w W W' : World} {row : Option Nat} {B : Nat} (h : Below w.heap.size w W) (hB : w.heap.size ≤ B) (hg : W.grownBy W' row) (hr : ∀ r, row = some r → B ≤ r) : Below w.heap.size w W' :=
  h.grown hg h.size (fun k e => by have := hr k e; omega)
theorem keeps_below {W W' : World} {B : Nat} (h : Below W.heap.size W W') : KeepsFrom B W W' := ⟨h.size, fun k _ _ hk _ => (h.block k (Array.getElem?_eq_some_iff.1 hk).1).trans hk⟩
theorem SBox.turn {W W' : World} {g B : Nat} {t : TypeId} {cs : List Value} {row : Option Nat} (h : SBox W g t cs) (hB : g < B) (hg : W.grownBy W' row) (hr : ∀ r, row = some r → B ≤ r) : SBox W' g t cs :=
  h.same (hg.block g h.lt (by intro e; have := hr g e.symm; omega))

/-! Structs and cells written within a fence. -/
section
variable {P : Program} {F : Fence} {nF : Nat} {ops : Array Oper} {rest : List Oper} {o : Oper} {a : Act} {w : World} {Q : Exit → Act → World → Prop} {g : Nat} {t : TypeId} {cs : List Value}
theorem wpListIn_loadS {fs : Array Field} (h : SBox w g t cs) (hu : P.underlying t = some (.struct fs)) (hi : (P.info? t).map (·.size) = some cs.length) (hgd : o.guard = none) (x : Operand) (ho : o.op = .load t x) (hx : a.eval x = .pointer (some ⟨g, 0, none⟩))
    (hK : wpListIn F nF P ops Q rest (a.put o.dst (.agg cs.toArray)) w) : wpListIn F nF P ops Q (o :: rest) a w :=
  wpListIn_plain hgd fun _ hk => by
    unfold Oper.wpIn
    refine ⟨by simp [Oper.about, ho], ?_⟩
    rw [Oper.semAt_plain F _ _ (by rw [ho]; intro c hc'; cases hc'), exec_loadS h hu hi x ho hx]
    exact hk _ _ hK
theorem wpListIn_storeS (h : SBox w g t cs) (hi : (P.info? t).map (·.size) = some cs.length) (hgd : o.guard = none) (x y : Operand) (ho : o.op = .store t x y) (hx : a.eval x = .pointer (some ⟨g, 0, none⟩)) {ds : List Value} (hy : a.eval y = .agg ds.toArray)
    (hl : ds.length = cs.length) (h1 : ∀ u ∈ ds, u.oneCell' = true)
    (hK : ∀ w', SBox w' g t ds → w.grownBy w' (some g) → w'.heap.size = w.heap.size → wpListIn F nF P ops Q rest (a.put o.dst undef) w') : wpListIn F nF P ops Q (o :: rest) a w :=
  wpListIn_plain hgd fun _ hk => by
    unfold Oper.wpIn
    refine ⟨by simp [Oper.about, ho], ?_⟩
    rw [Oper.semAt_plain F _ _ (by rw [ho]; intro c hc'; cases hc'), exec_storeS h hi x y ho hx hy hl h1]
    obtain ⟨s1, s2, s3⟩ := h.setRow ds
    exact hk _ _ (hK _ s1 s2 s3)
theorem wpListIn_put1 (t' : TypeId) (hgd : o.guard = none) (x y : Operand) (ho : o.op = .store t' x y) (j : Nat) (v : Value) (hx : a.eval x = .pointer (some ⟨g, j, none⟩)) (hy : a.eval y = v) (h1 : v.oneCell' = true) (hs : (P.info? t').map (·.size) = some 1)
    (u : Value) (hc : w.cell? ⟨g, j, none⟩ = some u) (hf : w.frozen? ⟨g, j, none⟩ = false)
    (hK : ∀ w', w' = w.setCell ⟨g, j, none⟩ v → wpListIn F nF P ops Q rest (a.put o.dst undef) w') : wpListIn F nF P ops Q (o :: rest) a w :=
  wpListIn_plain hgd fun _ hk => by
    unfold Oper.wpIn
    refine ⟨by simp [Oper.about, ho], ?_⟩
    rw [Oper.semAt_plain F _ _ (by rw [ho]; intro c hc'; cases hc'), exec_put1 t' x y ho j v hx hy h1 hs u hc hf]
    exact hk _ _ (hK _ rfl)
end

section
variable {P : Program} {F : Fence} {nF : Nat} {w : World}
theorem wpListIn_appV {ops : Array Oper} {rest : List Oper} {o : Oper} {a : Act} {Q : Exit → Act → World → Prop} (hgd : o.guard = none) (s x : Operand) (t : TypeId)
    (ho : o.op = .call { callee := .builtin .append, args := #[s, x], argTypes := #[t, t] })
    (B : Nat) (e : TypeId) (by1 : Nat) (i : TypeInfo) (z : Value) (ht : P.underlying t = some (.slice e)) (hi : P.info? e = some i) (hz : i.zero = some z)
    (hsize : i.size = 1) (hby : i.bytes = by1) (hzs : z.cells.size = 1) (v : Value) (l : List Value) (hs : a.eval s = v) (hown : OwnV w B e v l)
    (xv : Value) (m : List Value) (hxv : a.eval x = xv) (hx : Rowz w xv m) (h1 : ∀ u ∈ m, u.oneCell' = true)
    (hlen : (l.length + m.length) * by1 ≤ 140737488355328) (hml : l.length + m.length ≤ maxLen) (hbase : B ≤ w.heap.size)
    (h : ∀ v' w', OwnV w' B e v' (l ++ m) → w.grownBy w' v.ownBlock → (v'.ownBlock = v.ownBlock ∨ v'.ownBlock = some w.heap.size) → wpListIn F nF P ops Q rest (a.put o.dst v') w') : wpListIn F nF P ops Q (o :: rest) a w := by
  refine wpListIn_plain hgd fun K hK => ?_
  obtain ⟨v', w', hrun, h2, h3, h4⟩ := run_appV (P := P) w B t o.type e by1 i z ht hi hz hsize hby hzs v xv l m hown hx h1 hlen hml hbase
  unfold Oper.wpIn
  refine ⟨?_, ?_⟩
  · simp [Oper.about, ho, resolve, Target.leads, Sem.run_pure]
  · rw [Oper.semAt_plain F _ _ (by rw [ho]; intro c hc'; cases hc')]
    simp [execOp, ho, hs, hxv, hrun, resolve, invoke, builtin, Result.andThen]
    exact hK _ _ (h v' w' h2 h3 h4)
theorem wpListIn_appB {ops : Array Oper} {rest : List Oper} {o : Oper} {a : Act} {Q : Exit → Act → World → Prop} (hgd : o.guard = none) (s x : Operand) (t : TypeId)
    (ho : o.op = .call { callee := .builtin .append, args := #[s, x], argTypes := #[t, t] })
    (B : Nat) (e : TypeId) (i : TypeInfo) (z : Value) (ht : P.underlying t = some (.slice e)) (hi : P.info? e = some i) (hz : i.zero = some z)
    (hsize : i.size = 1) (hby : i.bytes = 1) (hzs : z.cells.size = 1) (v : Value) (l : List UInt8) (hs : a.eval s = v) (hown : Own w B e v l)
    (xv : Value) (m : List UInt8) (hxv : a.eval x = xv) (hx : Byt w xv m) (hlen : l.length + m.length ≤ 140737488355328) (hbase : B ≤ w.heap.size)
    (h : ∀ v' w', Own w' B e v' (l ++ m) → w.grownBy w' v.ownBlock → (v'.ownBlock = v.ownBlock ∨ v'.ownBlock = some w.heap.size) → wpListIn F nF P ops Q rest (a.put o.dst v') w') : wpListIn F nF P ops Q (o :: rest) a w := by
  refine wpListIn_plain hgd fun K hK => ?_
  obtain ⟨v', w', hrun, h2, h3, h4⟩ := run_app (P := P) w B t o.type e i z ht hi hz hsize hby hzs v xv l m hown hx hlen hbase
  unfold Oper.wpIn
  refine ⟨?_, ?_⟩
  · simp [Oper.about, ho, resolve, Target.leads, Sem.run_pure]
  · rw [Oper.semAt_plain F _ _ (by rw [ho]; intro c hc'; cases hc')]
    simp [execOp, ho, hs, hxv, hrun, resolve, invoke, builtin, Result.andThen]
    exact hK _ _ (h v' w' h2 h3 h4)
end
/-- Bytes of a call's own while a row or box of another type is written. -/
theorem own_other {W W' : World} {B : Nat} {v : Value} {l : List UInt8} {row : Option Nat} (h : Own W B 5 v l) (hg : W.grownBy W' row) (hr : ∀ g, row = some g → ∃ cs t f, W.heap[g]? = some (.cells cs t f) ∧ t ≠ 5) : Own W' B 5 v l := by
  refine World.ownsRow.kept h hg ?_
  rcases h.2 with ⟨rfl, _⟩ | ⟨g, cap, cur, rfl, _, hgb, _⟩
  · exact .inl rfl
  · refine .inr fun e' => ?_
    obtain ⟨cs, t, f, ho, hc⟩ := hr g (by simpa [Value.ownBlock] using e'.symm)
    rw [hgb] at ho
    injection ho with ho
    injection ho with _ ho _
    exact hc ho.symm
theorem ownV_other {W W' : World} {B : Nat} {e : TypeId} {v : Value} {vs : List Value} {row : Option Nat} (h : OwnV W B e v vs) (hg : W.grownBy W' row) (hr : ∀ g, row = some g → ∃ cs t f, W.heap[g]? = some (.cells cs t f) ∧ t ≠ e) : OwnV W' B e v vs := by
  refine World.ownsRow.kept h hg ?_
  rcases h.2 with ⟨rfl, _⟩ | ⟨g, cap, cur, rfl, _, hgb, _⟩
  · exact .inl rfl
  · refine .inr fun e' => ?_
    obtain ⟨cs, t, f, ho, hc⟩ := hr g (by simpa [Value.ownBlock] using e'.symm)
    rw [hgb] at ho
    injection ho with ho
    injection ho with _ ho _
    exact hc ho.symm
/-- A row's block, by its element's type. -/
theorem ownsRow_tag {W : World} {B : Nat} {e : TypeId} {k : Nat} {v : Value} {xs : List Value} (h : W.ownsRow B e 1 v k xs) : ∀ g, v.ownBlock = some g → ∃ cs f, W.heap[g]? = some (.cells cs e f) := by
  intro g hg
  rcases h.2 with ⟨rfl, _⟩ | ⟨g', cap, cur, rfl, _, hgb, _⟩
  · cases hg
  · have : g' = g := by simpa [Value.ownBlock] using hg
    subst this
    exact ⟨_, _, hgb⟩
theorem ownsRow_form {W : World} {B : Nat} {e : TypeId} {k : Nat} {v : Value} {xs : List Value} (h : W.ownsRow B e 1 v k xs) : ∃ A c, v = .slice A k c := by
  rcases h.2 with ⟨rfl, rfl⟩ | ⟨g', cap, cur, rfl, _⟩
  · exact ⟨_, _, rfl⟩
  · exact ⟨_, _, rfl⟩
end Go.Proofs.YtknagdbhhfelnaaDoor
