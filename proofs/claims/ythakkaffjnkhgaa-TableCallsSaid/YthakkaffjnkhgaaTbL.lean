/-
  What the statement TableTells goes by: maps from int to int of the law's own; calls that came in; a table as such maps. Conditions: none.
-/
import Derived.Test.YthakkaffjnkhgaaTbI
import Derived.Test.YthakkaffjnkhgaaTbJ
import Derived.Test.YthakkaffjnkhgaaTbK
import Derived.Test.YthakkaffjnkhgaaRec
import Derived.Maps.OwnOps
namespace Go.Proofs.Ythakkaffjnkhgaa
open Go.ChangeShapes Go.WideShapes Go.ChangeAt Go.RowKit Go.Deep Go.Maps
set_option maxRecDepth 100000
set_option linter.unusedVariables false
set_option linter.unusedSimpArgs false

/-! Calls that came in. -/
structure ActT where
  kind : Int
  n : Int
  page : Int
instance : Inhabited ActT := ⟨⟨0, 0, 0⟩⟩
def actTL (a : ActT) : List Value := [.int .i64 a.kind, .int .i64 a.n, .int .i64 a.page]
def ActTOk (a : ActT) : Prop := True
theorem cellActT : Try.prog.cellsOf 48 = 3 := by kernel_rfl
theorem cellIntT : Try.prog.cellsOf 3 = 1 := by kernel_rfl
section
variable {H : Type} {enc : TypeId × Value → H} {W : World}
theorem open_actTF {fuel : Nat} {cs : List Value} {x : DataW H × List MemPlace} (h : DataW.trod enc Try.prog W 0 (fun _ => true) true fuel 48 cs = some x) : ∃ a, cs = actTL a ∧ ActTOk a := by
  obtain ⟨xs, n, _, rfl, hl, hlen, hf⟩ := DataW.trod_struct Try.underlying48 h
  rw [cellActT] at hl
  match cs, hl, xs, hlen with
  | [c0, c1, c2], _, [y0, y1, y2], _ =>
    have g0 : DataW.trod enc Try.prog W 0 (fun _ => true) true n 3 [c0] = some y0 := by simpa [cellIntT] using hf 0 _ rfl
    have g1 : DataW.trod enc Try.prog W 0 (fun _ => true) true n 3 [c1] = some y1 := by simpa [cellIntT] using hf 1 _ rfl
    have g2 : DataW.trod enc Try.prog W 0 (fun _ => true) true n 3 [c2] = some y2 := by simpa [cellIntT] using hf 2 _ rfl
    obtain ⟨kind, q0, _, w0⟩ := DataW.trod_int Try.underlying3 g0
    obtain ⟨nn, q1, _, w1⟩ := DataW.trod_int Try.underlying3 g1
    obtain ⟨v, q2, _, w2⟩ := DataW.trod_int Try.underlying3 g2
    simp at q0 q1 q2
    subst q0 q1 q2
    exact ⟨⟨kind, nn, v⟩, rfl, trivial⟩
def ActsT (w : World) (v : Value) (n : Nat) (f : Nat → ActT) : Prop := Recs 3 actTL ActTOk w v n f
theorem open_acts10 {base : Nat} {v : Value} {d : DataW H} {p : List MemPlace} (hv : Value.okWide Try.prog W .any base 44 v) (h : DataW.Trod enc Try.prog W 0 (fun _ => true) true 44 v d p) : ∃ n f, ActsT W v n f :=
  open_recs Try.underlying44 cellActT (by omega) (fun _ => rfl) (fun h => open_actTF h) hv h
end

/-! Maps from int to int. -/
/-- A map's block holds this map, of so many keys. -/
def MapZ (w : World) (g m : Nat) (f : Int → Option Int) (k : Nat) : Prop := ∃ D : DataW Unit, w.ownsMap Try.prog 3 (plainElem Try.prog 3) g m D ∧ Tidy D ∧ Maps.size D = k ∧ (∀ z, Maps.has D (keyZ z) = (f z).isSome) ∧ ∀ z c, f z = some c → D.atKey (keyZ z) (.lit (.int .i64 0)) = .lit (.int .i64 c)
theorem MapZ.lt {w : World} {g m k : Nat} {f : Int → Option Int} (h : MapZ w g m f k) : g < w.heap.size := by
  obtain ⟨D, hown, _⟩ := h
  exact hown.lt
theorem MapZ.mono {w : World} {g m m' k : Nat} {f : Int → Option Int} (h : MapZ w g m f k) (hm : m ≤ m') : MapZ w g m' f k := by
  obtain ⟨D, hown, r⟩ := h
  exact ⟨D, hown.mono hm, r⟩
theorem MapZ.grown {w w' : World} {g m k q : Nat} {f : Int → Option Int} (h : MapZ w g m f k) (hg : w.grownBy w' (some q)) (hne : g ≠ q) : MapZ w' g m f k := by
  obtain ⟨D, hown, r⟩ := h
  exact ⟨D, hown.kept hg (fun e => hne (by injection e)), r⟩
theorem MapZ.below {w w' : World} {g m k : Nat} {f : Int → Option Int} (h : MapZ w g m f k) (hb : Below w.heap.size w w') : MapZ w' g m f k := by
  obtain ⟨D, hown, r⟩ := h
  exact ⟨D, hown.kept (grown_below (r := none) hb) (by simp), r⟩
theorem MapZ.made (w : World) : MapZ (w.alloc (.map #[] 0)) w.heap.size 0 (fun _ => none) 0 := ⟨.map [], World.ownsMap_made _ _ _ _, tidy_empty, rfl, fun z => by simp [Maps.has], fun z c h => by cases h⟩
theorem MapZ.same {w : World} {g m k : Nat} {f f' : Int → Option Int} (h : MapZ w g m f k) (e : ∀ z, f' z = f z) : MapZ w g m f' k := by
  have : f' = f := funext e
  rw [this]
  exact h
theorem mapUnderZ : Try.prog.underlying 45 = some (.map 3 3) := Try.underlying45
theorem run_makeZ (w : World) : (Instr.makeMap 45 none).run Try.prog w = .ok (.map (some w.heap.size)) (w.alloc (.map #[] 0)) := by
  unfold Instr.makeMap
  simp only [Sem.run_bind, Result.andThen_ok, Sem.run_pure, run_newObj_alloc]
theorem zeroIntZ (w : World) : (zeroValue 3).run Try.prog w = .ok (.int .i64 0) w := by kernel_rfl
theorem keyOfZ {z : Int} (h : -9223372036854775808 ≤ z ∧ z ≤ 9223372036854775807) : keyOf Try.prog 3 (.int .i64 z) = some (keyZ z) := keyOf_int_mk Try.underlying3 (keyZ_wf h)
section
variable {ops : Array Oper} {rest : List Oper} {o : Oper} {a : Act} {w : World} {Q : Exit → Act → World → Prop} {g n k : Nat} {f : Int → Option Int}
theorem wpList_lookZ (hgd : o.guard = none) (m x : Operand) (hop : o.op = Op.lookup 45 m x true) (h : MapZ w g n f k) (hm : a.eval m = .map (some g)) (z : Int) (hx : a.eval x = .int .i64 z) (hz : -9223372036854775808 ≤ z ∧ z ≤ 9223372036854775807)
    (r : Option Int) (hr : f z = r) (hK : wpList Try.prog ops Q rest (a.put o.dst (.tuple #[.int .i64 (r.getD 0), .bool r.isSome])) w) : wpList Try.prog ops Q (o :: rest) a w := by
  obtain ⟨D, hown, _, _, hh, hat⟩ := h
  refine wpList_lookup_own_ok_int w hgd m x _ hop 3 3 .i64 intKeyedZ mapUnderZ Try.underlying3 (zeroIntZ w) g n D hm hown _ (keyZ z) hx (keyOfZ hz) ?_
  intro c hc _
  have h1 := hh z
  rw [hr] at h1
  rw [h1]
  have : c = r.getD 0 := by
    cases r with
    | none => rw [atKey_of_not_has h1] at hc; injection hc with hc; injection hc with _ hc; exact hc.symm
    | some y => rw [hat z y hr] at hc; injection hc with hc; injection hc with _ hc; exact hc.symm
  rw [this]
  exact hK
theorem wpList_delZ (hgd : o.guard = none) (m x : Operand) (hop : o.op = Op.call { callee := Callee.builtin Builtin.delete, args := #[m, x], argTypes := #[45, 3] }) (h : MapZ w g n f k) (hm : a.eval m = .map (some g)) (z : Int) (hx : a.eval x = .int .i64 z)
    (hz : -9223372036854775808 ≤ z ∧ z ≤ 9223372036854775807) (hi : (f z).isSome = true)
    (hK : ∀ w', MapZ w' g n (fun y => if y = z then none else f y) (k - 1) → w.grownBy w' (some g) → wpList Try.prog ops Q rest (a.put o.dst (.tuple #[])) w') : wpList Try.prog ops Q (o :: rest) a w := by
  obtain ⟨D, hown, ht, hs, hh, hat⟩ := h
  refine wpList_delete_own w hgd m x _ _ hop 3 intKeyedZ mapUnderZ _ g n D hm hown _ (keyZ z) hx (keyOfZ hz) ?_
  intro w' hown' hturn
  refine hK w' ⟨_, hown', ht.del _, ?_, fun y => ?_, fun y c hy => ?_⟩ hturn.grown
  · have := size_del (k := keyZ z) ht
    rw [hh z, hi, hs] at this
    simp at this
    omega
  · show _ = (if y = z then none else f y).isSome
    by_cases e : y = z
    · subst e
      rw [has_del_same, if_pos rfl]
      rfl
    · rw [has_del_other (keyZ_ne e), if_neg e]
      exact hh y
  · have hy : (if y = z then none else f y) = some c := hy
    by_cases e : y = z
    · rw [if_pos e] at hy; cases hy
    · rw [if_neg e] at hy
      rw [atKey_del_other (keyZ_ne e)]
      exact hat y c hy
theorem wpList_putZ (hgd : o.guard = none) (m x v : Operand) (hop : o.op = Op.mapUpdate 45 m x v) (h : MapZ w g n f k) (hm : a.eval m = .map (some g)) (z c : Int) (hx : a.eval x = .int .i64 z) (hv : a.eval v = .int .i64 c)
    (hz : -9223372036854775808 ≤ z ∧ z ≤ 9223372036854775807) (hc : -9223372036854775808 ≤ c ∧ c ≤ 9223372036854775807) (hn : n < maxLen)
    (hK : ∀ w', MapZ w' g (n + 1) (fun y => if y = z then some c else f y) (if (f z).isSome then k else k + 1) → w.grownBy w' (some g) → wpList Try.prog ops Q rest (a.put o.dst undef) w') : wpList Try.prog ops Q (o :: rest) a w := by
  obtain ⟨D, hown, ht, hs, hh, hat⟩ := h
  refine wpList_mapUpdate_own w hgd m x v _ hop 3 3 intKeyedZ mapUnderZ _ g n D hm hown hn _ _ (keyZ z) hx hv (keyOfZ hz) _ [] (plainElem_int Try.underlying3 (keyZ_wf hc)) ?_
  intro w' hown' hgrow
  refine hK w' ⟨_, hown', ht.put (show WideAt.IsKeyLit (keyZ z) from trivial) _, ?_, fun y => ?_, fun y c' hy => ?_⟩ hgrow
  · rw [size_put ht, hh z, hs]
  · show _ = (if y = z then some c else f y).isSome
    by_cases e : y = z
    · subst e
      rw [has_put_same ht.isMap (show WideAt.IsKeyLit (keyZ y) from trivial), if_pos rfl]
      rfl
    · rw [has_put_other (keyZ_ne e), if_neg e]
      exact hh y
  · have hy : (if y = z then some c else f y) = some c' := hy
    by_cases e : y = z
    · subst e
      rw [if_pos rfl] at hy
      injection hy with hy
      subst hy
      exact atKey_put_same ht.isMap (show WideAt.IsKeyLit (keyZ y) from trivial) _ _
    · rw [if_neg e] at hy
      rw [atKey_put_other (keyZ_ne e)]
      exact hat y c' hy
theorem wpList_lenZ (hgd : o.guard = none) (m : Operand) (hop : o.op = Op.call { callee := Callee.builtin Builtin.len, args := #[m], argTypes := #[45] }) (h : MapZ w g n f k) (hm : a.eval m = .map (some g))
    (hK : wpList Try.prog ops Q rest (a.put o.dst (.int .i64 (k : Int))) w) : wpList Try.prog ops Q (o :: rest) a w := by
  obtain ⟨D, hown, _, hs, _⟩ := h
  subst hs
  exact wpList_len_own w hgd m _ hop 3 3 mapUnderZ _ g n D hm hown hK
end

/-! A table as such maps. -/
def atF (zs : List Int) : Int → Option Int := fun z => if 0 ≤ z ∧ atZ zs z.toNat ≠ 0 then some (atZ zs z.toNat) else none
def byF (zs : List Int) : Int → Option Int := fun p => if p ≠ 0 ∧ idxZ zs p < zs.length then some ((idxZ zs p : Nat) : Int) else none
theorem atF_some {zs : List Int} {n : Nat} (h : atZ zs n ≠ 0) : atF zs (n : Int) = some (atZ zs n) := by
  unfold atF
  rw [if_pos ⟨by omega, by rw [Int.toNat_natCast]; exact h⟩, Int.toNat_natCast]
theorem atF_none {zs : List Int} {n : Nat} (h : atZ zs n = 0) : atF zs (n : Int) = none := by
  unfold atF
  rw [if_neg (fun h' => h'.2 (by rw [Int.toNat_natCast]; exact h))]
theorem byF_some {zs : List Int} (hok : tbOk zs) {p : Int} {n : Nat} (h0 : p ≠ 0) (h : atZ zs n = p) : byF zs p = some (n : Int) := by
  have hi := idxZ_of hok h0 h
  unfold byF
  rw [if_pos ⟨h0, by rw [hi]; exact atZ_in (h ▸ h0)⟩, hi]
theorem byF_none {zs : List Int} {p : Int} (h : ∀ j, atZ zs j ≠ p ∨ p = 0) : byF zs p = none := by
  unfold byF
  refine if_neg (fun h' => ?_)
  rcases h (idxZ zs p) with e | e
  · exact e (idxZ_at p zs h'.2)
  · exact h'.1 e
theorem byF_cases {zs : List Int} (hok : tbOk zs) (p : Int) : (p ≠ 0 ∧ ∃ n : Nat, atZ zs n = p ∧ byF zs p = some (n : Int)) ∨ ((∀ j, atZ zs j ≠ p ∨ p = 0) ∧ byF zs p = none) := by
  by_cases h : p ≠ 0 ∧ idxZ zs p < zs.length
  · exact .inl ⟨h.1, _, idxZ_at p zs h.2, byF_some hok h.1 (idxZ_at p zs h.2)⟩
  · have : ∀ j, atZ zs j ≠ p ∨ p = 0 := fun j => by
      by_cases h0 : p = 0
      · exact .inr h0
      · refine .inl (fun e => ?_)
        have hl : ¬ idxZ zs p < zs.length := fun hl => h ⟨h0, hl⟩
        exact idxZ_none hl j (atZ_in (by rw [e]; exact h0)) e
    exact .inr ⟨this, byF_none this⟩
/-- byF of a table that is another one but at n. -/
theorem byF_turn {zs ys : List Int} (h1 : tbOk zs) (h2 : tbOk ys) {n : Nat} (h : ∀ j, j ≠ n → atZ ys j = atZ zs j) (x : Int) : byF ys x = if x ≠ 0 ∧ x = atZ ys n then some (n : Int) else if x = atZ zs n then none else byF zs x := by
  by_cases hx : x ≠ 0 ∧ x = atZ ys n
  · rw [if_pos hx]
    exact byF_some h2 hx.1 hx.2.symm
  · rw [if_neg hx]
    by_cases hy : x = atZ zs n
    · rw [if_pos hy]
      refine byF_none (fun j => ?_)
      by_cases h0 : x = 0
      · exact .inr h0
      · refine .inl (fun e => ?_)
        by_cases ej : j = n
        · subst ej; exact hx ⟨h0, e.symm⟩
        · rw [h j ej] at e
          exact ej (standZ_once h1.2.2 (by rw [e]; exact h0) (e.trans hy))
    · rw [if_neg hy]
      rcases byF_cases h1 x with ⟨h0, j, ej, eb⟩ | ⟨hn, eb⟩
      · rw [eb]
        have hj : j ≠ n := fun e => hy (by rw [← e]; exact ej.symm)
        exact byF_some h2 h0 (by rw [h j hj]; exact ej)
      · rw [eb]
        refine byF_none (fun j => ?_)
        by_cases h0 : x = 0
        · exact .inr h0
        · refine .inl (fun e => ?_)
          by_cases ej : j = n
          · subst ej; exact hx ⟨h0, e.symm⟩
          · rw [h j ej] at e
            exact (hn j).elim (fun hh => hh e) (fun hh => h0 hh)
theorem atF_turn {zs ys : List Int} {n : Nat} (h : ∀ j, j ≠ n → atZ ys j = atZ zs j) (x : Int) : atF ys x = if x = (n : Int) then (if atZ ys n ≠ 0 then some (atZ ys n) else none) else atF zs x := by
  by_cases e : x = (n : Int)
  · subst e
    rw [if_pos rfl]
    by_cases h0 : atZ ys n ≠ 0
    · rw [if_pos h0, atF_some h0]
    · rw [if_neg h0, atF_none (by omega)]
  · rw [if_neg e]
    unfold atF
    by_cases h0 : 0 ≤ x
    · rw [h x.toNat (by omega)]
    · rw [if_neg (fun h' => h0 h'.1), if_neg (fun h' => h0 h'.1)]
end Go.Proofs.Ythakkaffjnkhgaa
