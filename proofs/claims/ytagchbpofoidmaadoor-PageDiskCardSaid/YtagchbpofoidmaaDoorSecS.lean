/-
  Append of whatever one-cell values, and the kit's Crash (a crash in memory of its own), by their contracts. Conditions: rows are short.
-/
import Derived.Test.YtagchbpofoidmaaDoorSecQ
import Derived.Test.YtagchbpofoidmaaDoorOrdT
namespace Go.Proofs.YtagchbpofoidmaaDoor
open Go.RowKit Go.Maps
set_option maxRecDepth 100000

theorem Rowz.newsO {w : World} {A : Option Addr} {n c : Nat} {vs : List Value} (h : Rowz w (.slice A n c) vs) : n = vs.length ∧ (A = none → vs = []) ∧ ∀ ad, A = some ad → ∀ j u, vs[j]? = some u → w.cell? (ad.add j) = some u := by
  refine ⟨?_, ?_, fun ad e => ?_⟩
  · obtain ⟨A', c', e, _⟩ := h
    injection e
  · rintro rfl
    obtain ⟨A', c', e, h1, h2, h3⟩ := h
    rcases h3 with h3 | ⟨b, off, rfl, _⟩
    · exact h3
    · cases e
  · subst e
    exact h.news
section
variable {P : Program} (w : World)
theorem run_appZ (B : Nat) (t ty e : TypeId) (i : TypeInfo) (z : Value) (bytes : Nat) (ht : P.underlying t = some (.slice e)) (hi : P.info? e = some i) (hz : i.zero = some z)
    (hsize : i.size = 1) (hby : i.bytes = bytes) (hzs : z.cells.size = 1) (v x : Value) (n : Nat) (xs vs : List Value) (hown : w.ownsRow B e 1 v n xs) (hx : Rowz w x vs) (h1 : ∀ u ∈ vs, u.oneCell' = true)
    (hlen : (n + vs.length) * (bytes + 1) ≤ 140737488355328) (hbase : B ≤ w.heap.size) :
    ∃ v' w', (Builtin.append_ #[t, t] ty #[v, x]).run P w = .ok v' w' ∧ w'.ownsRow B e 1 v' (n + vs.length) (xs ++ vs) ∧ w.grownBy w' v.ownBlock ∧ (v'.ownBlock = v.ownBlock ∨ v'.ownBlock = some w.heap.size) := by
  obtain ⟨A, m, c, rfl, _⟩ := hx.form
  obtain ⟨hm, hno, hso⟩ := hx.newsO
  subst hm
  rw [Nat.mul_add, Nat.mul_one] at hlen
  have hml : n + vs.length ≤ maxLen := by simp only [maxLen]; omega
  cases A with
  | none =>
    obtain rfl := hno rfl
    refine ⟨v, w, ?_, by simpa using hown, World.grownBy.refl w _, .inl rfl⟩
    rcases hown.2 with ⟨rfl, _⟩ | ⟨g, cap, cur, rfl, _, _, hnc, _⟩
    · simp [Builtin.append_, run_underlying ht, sizeOf, typeInfo, hi, Builtin.lenOf, Builtin.firstCells]
    · simp [Builtin.append_, run_underlying ht, sizeOf, typeInfo, hi, Builtin.lenOf, Builtin.firstCells, hnc, storeCells]
  | some ad =>
    obtain ⟨v', w', hrun, g2, g3, _, g5⟩ := run_append_own_at (P := P) w B t ty e i z 1 bytes ht hi hz hsize hby hzs (by omega) v n xs hown ad vs.length c vs (by omega) (hso ad rfl) h1 hml (by omega) hbase
    exact ⟨v', w', hrun, g2, g3, g5⟩
theorem wp_appZ {o : Oper} {a : Act} {K : Act → World → Prop} {Q : Exit → Act → World → Prop} (s x : Operand) (t : TypeId)
    (ho : o.op = .call { callee := .builtin .append, args := #[s, x], argTypes := #[t, t] })
    (B : Nat) (e : TypeId) (i : TypeInfo) (z : Value) (bytes : Nat) (ht : P.underlying t = some (.slice e)) (hi : P.info? e = some i) (hz : i.zero = some z)
    (hsize : i.size = 1) (hby : i.bytes = bytes) (hzs : z.cells.size = 1) (v : Value) (n : Nat) (xs : List Value) (hs : a.eval s = v) (hown : w.ownsRow B e 1 v n xs)
    (xv : Value) (vs : List Value) (hxv : a.eval x = xv) (hx : Rowz w xv vs) (h1 : ∀ u ∈ vs, u.oneCell' = true)
    (hlen : (n + vs.length) * (bytes + 1) ≤ 140737488355328) (hbase : B ≤ w.heap.size)
    (h : ∀ v' w', w'.ownsRow B e 1 v' (n + vs.length) (xs ++ vs) → w.grownBy w' v.ownBlock → (v'.ownBlock = v.ownBlock ∨ v'.ownBlock = some w.heap.size) → K (a.put o.dst v') w') : o.wp P a w K Q := by
  obtain ⟨v', w', hrun, h2, h3, h4⟩ := run_appZ (P := P) w B t o.type e i z bytes ht hi hz hsize hby hzs v xv n xs vs hown hx h1 hlen hbase
  unfold Oper.wp execOp
  simp only [ho, resolve, invoke, builtin, Sem.run_bind, Sem.run_pure, Result.andThen_ok, List.map_toArray, List.map_cons, List.map_nil, hs, hxv, hrun]
  exact h v' w' h2 h3 h4
theorem wpList_appZ {ops : Array Oper} {rest : List Oper} {o : Oper} {a : Act} {Q : Exit → Act → World → Prop} (hgd : o.guard = none) (s x : Operand) (t : TypeId)
    (ho : o.op = .call { callee := .builtin .append, args := #[s, x], argTypes := #[t, t] })
    (B : Nat) (e : TypeId) (i : TypeInfo) (z : Value) (bytes : Nat) (ht : P.underlying t = some (.slice e)) (hi : P.info? e = some i) (hz : i.zero = some z)
    (hsize : i.size = 1) (hby : i.bytes = bytes) (hzs : z.cells.size = 1) (v : Value) (n : Nat) (xs : List Value) (hs : a.eval s = v) (hown : w.ownsRow B e 1 v n xs)
    (xv : Value) (vs : List Value) (hxv : a.eval x = xv) (hx : Rowz w xv vs) (h1 : ∀ u ∈ vs, u.oneCell' = true)
    (hlen : (n + vs.length) * (bytes + 1) ≤ 140737488355328) (hbase : B ≤ w.heap.size)
    (h : ∀ v' w', w'.ownsRow B e 1 v' (n + vs.length) (xs ++ vs) → w.grownBy w' v.ownBlock → (v'.ownBlock = v.ownBlock ∨ v'.ownBlock = some w.heap.size) → wpList P ops Q rest (a.put o.dst v') w') : wpList P ops Q (o :: rest) a w :=
  wpList_plain hgd fun _ hK => wp_appZ w s x t ho B e i z bytes ht hi hz hsize hby hzs v n xs hs hown xv vs hxv hx h1 hlen hbase fun v' w' h2 h3 h4 => hK _ _ (h v' w' h2 h3 h4)
end

/-- What the kit's Crash leaves: a crash in memory of its own. -/
def CrashOwn (w : World) (keep : List Bool) (torn bytes : Int) (e : Ending) (w' : World) : Prop :=
  ∃ v, e = .returned (.agg (crashV v torn bytes)) ∧ Rowz w' v (keep.map Value.bool) ∧ (∀ k, v.ownBlock = some k → w.heap.size ≤ k) ∧ Below w.heap.size w w'
end Go.Proofs.YtagchbpofoidmaaDoor
