/-
  For SpaceCounts: pages used and given back one by one, turned back; ints that came in; append and struct stores as one operation. Conditions: none.
-/
import Derived.Test.YtncjobeahpjnpaaSpK
namespace Go.Proofs.Ytncjobeahpjnpaa
open Go.ChangeShapes Go.WideShapes Go.ChangeAt Go.RowKit Go.Maps
set_option maxRecDepth 100000

def intC (zs : List Int) : List Value := zs.map (Value.int .i64)
theorem intC_len (zs : List Int) : (intC zs).length = zs.length := by simp [intC]
theorem intC_at (zs : List Int) (j : Nat) (h : j < (intC zs).length) : (intC zs)[j] = .int .i64 (zs[j]'(by rw [intC_len] at h; exact h)) := by simp [intC]
theorem intC_one (zs : List Int) : ∀ u ∈ intC zs, u.oneCell' = true := by
  intro u hu
  simp only [intC, List.mem_map] at hu
  obtain ⟨z, _, rfl⟩ := hu
  rfl
theorem natC_one (l : List Nat) : ∀ u ∈ natC l, u.oneCell' = true := by
  intro u hu
  simp only [natC, List.mem_map] at hu
  obtain ⟨z, _, rfl⟩ := hu
  rfl
theorem natC_getAt (l : List Nat) (j : Nat) (h : j < (natC l).length) : (natC l)[j] = .int .i64 ((l[j]'(by rw [natC_len] at h; exact h) : Nat) : Int) := by simp [natC]
/-- A slice of ints that came in. -/
theorem open_introw {H : Type} {enc : TypeId × Value → H} {W : World} {base : Nat} {v : Value} {d : DataW H} {p : List MemPlace}
    (hv : Value.okWide Try.prog W .any base 34 v) (h : DataW.Trod enc Try.prog W 0 (fun _ => true) true 34 v d p) : ∃ zs : List Int, Rowz W v (zs.map (Value.int .i64)) := by
  obtain ⟨a, len, cap, rfl⟩ := okWide_slice Try.underlying34 hv
  obtain ⟨fuel, hf⟩ := h
  rcases open_ints Try.underlying34 Try.underlying3 (by kernel_rfl) hf with ⟨hcs, _⟩ | ⟨x, l, c, zs, hcs, _, hl, hm, hz, _, hcell, hwz⟩
  · simp [Value.cells] at hcs
    obtain ⟨rfl, rfl, rfl⟩ := hcs
    exact ⟨[], Rowz.nil W⟩
  · simp [Value.cells] at hcs
    obtain ⟨rfl, rfl, rfl⟩ := hcs
    have hz' : zs.length = cap := by simpa using hz
    have hlen : ((zs.take len).map (Value.int .i64)).length = len := by rw [List.length_map, List.length_take]; omega
    refine ⟨zs.take len, _, cap, by rw [hlen], by omega, hm, ?_⟩
    by_cases h0 : len = 0
    · exact .inl (by subst h0; simp)
    · obtain ⟨b, off, spot⟩ := x
      have hc0 := hcell 0 (by omega)
      have hspot : spot = none := by simpa [Addr.add] using World.cell?_spot hc0
      subst hspot
      refine .inr ⟨b, off, rfl, ?_, fun j hj => ?_⟩
      · rcases Nat.lt_or_ge b W.heap.size with h' | h'
        · exact h'
        · rw [plainAdd] at hc0
          simp [World.cell?, Array.getElem?_eq_none h'] at hc0
      · rw [hlen] at hj
        have hc := hcell j (by omega)
        rw [plainAdd] at hc
        rw [hc]
        have hjz : j < zs.length := by omega
        simp [List.getElem?_eq_getElem hjz]

/-- A page is turned over: used if it was free, given back if it was used. -/
def tog (m : List Bool) (n : Nat) : List Bool := m.set n (!(m.getD n false))
theorem tog_len (m : List Bool) (n : Nat) : (tog m n).length = m.length := by simp [tog]
theorem tog_free {m : List Bool} {n : Nat} (h : m[n]? = some false) : tog m n = m.set n true := by
  unfold tog; rw [List.getD_eq_getElem?_getD, h]; rfl
theorem tog_used {m : List Bool} {n : Nat} (h : m[n]? = some true) : tog m n = m.set n false := by
  unfold tog; rw [List.getD_eq_getElem?_getD, h]; rfl
theorem tog_tog {m : List Bool} {n : Nat} (h : n < m.length) : tog (tog m n) n = m := by
  have hb : m[n]? = some m[n] := List.getElem?_eq_getElem h
  cases hx : m[n] with
  | true =>
    rw [hx] at hb
    rw [tog_used hb, tog_free (by rw [List.getElem?_set]; simp [h]), set_back _ hb]
  | false =>
    rw [hx] at hb
    rw [tog_free hb, tog_used (by rw [List.getElem?_set]; simp [h]), set_back _ hb]
/-- All are turned back, the last first. -/
def undo (m : List Bool) (ds : List Nat) : List Bool := ds.reverse.foldl tog m
theorem undo_nil (m : List Bool) : undo m [] = m := rfl
theorem undo_last (m : List Bool) (ds : List Nat) (n : Nat) : undo m (ds ++ [n]) = undo (tog m n) ds := by simp [undo]
theorem undo_app {m : List Bool} (ds : List Nat) {n : Nat} (h : n < m.length) : undo (tog m n) (ds ++ [n]) = undo m ds := by rw [undo_last, tog_tog h]
theorem spOk_tog {p : Int} {m : List Bool} {n : Nat} (h : spOk p m) (hn : 2 ≤ n) : spOk p (tog m n) := spOk_set h _ (.inl hn)
/-- What Use and Give answer of a page of a space that may be. -/
theorem spUse_free {p : Int} {m : List Bool} {n : Nat} (h : spOk p m) (hb : m[n]? = some false) : spUse p m (n : Int) = (p, tog m n, 0) := by
  have hn := (List.getElem?_eq_some_iff.1 hb).1
  have := spOk_len h
  unfold spUse
  rw [if_neg (fun h' => h'.elim (fun h' => h' h) (fun h' => by omega)), Int.toNat_natCast, if_neg (by rw [hb]; simp), tog_free hb]
theorem spUse_used {p : Int} {m : List Bool} {n : Nat} (h : spOk p m) (hb : m[n]? = some true) : spUse p m (n : Int) = (0, [], 7) := by
  have hn := (List.getElem?_eq_some_iff.1 hb).1
  have := spOk_len h
  unfold spUse
  rw [if_neg (fun h' => h'.elim (fun h' => h' h) (fun h' => by omega)), Int.toNat_natCast, if_pos hb]
theorem spGive_used {p : Int} {m : List Bool} {n : Nat} (h : spOk p m) (hn2 : 2 ≤ n) (hb : m[n]? = some true) : spGive p m (n : Int) = (p, tog m n, 0) := by
  have hn := (List.getElem?_eq_some_iff.1 hb).1
  have := spOk_len h
  unfold spGive
  rw [if_neg (fun h' => h'.elim (fun h' => h' h) (fun h' => by omega)), Int.toNat_natCast, if_neg (by rw [hb]; simp), tog_used hb]
theorem spGive_free {p : Int} {m : List Bool} {n : Nat} (h : spOk p m) (hn2 : 2 ≤ n) (hb : m[n]? = some false) : spGive p m (n : Int) = (0, [], 6) := by
  have hn := (List.getElem?_eq_some_iff.1 hb).1
  have := spOk_len h
  unfold spGive
  rw [if_neg (fun h' => h'.elim (fun h' => h' h) (fun h' => by omega)), Int.toNat_natCast, if_pos hb]
theorem spGive_low {p : Int} {m : List Bool} {n : Nat} (hn2 : n < 2) : spGive p m (n : Int) = (0, [], 2) := by
  unfold spGive
  rw [if_pos (.inr (.inl (by omega)))]
theorem spOk_low {p : Int} {m : List Bool} {n : Nat} (h : spOk p m) (hn2 : n < 2) : m[n]? = some true := by
  obtain ⟨_, _, _, h0, h1⟩ := h
  match n, hn2 with
  | 0, _ => exact h0
  | 1, _ => exact h1
theorem count_free {p : Int} {m : List Bool} {n : Nat} (h : spOk p m) (hb : m[n]? = some false) (hn2 : 2 ≤ n) : ((spFreeC p (tog m n)).length : Int) = ((spFreeC p m).length : Int) - 1 := by
  have h2 : spFreeC p (tog m n) = spFree (tog m n) := if_pos (spOk_tog h hn2)
  rw [h2, show spFreeC p m = spFree m from if_pos h, tog_free hb, ← count_use hb]
  omega
theorem count_used {p : Int} {m : List Bool} {n : Nat} (h : spOk p m) (hb : m[n]? = some true) (hn2 : 2 ≤ n) : ((spFreeC p (tog m n)).length : Int) = ((spFreeC p m).length : Int) + 1 := by
  have h2 : spFreeC p (tog m n) = spFree (tog m n) := if_pos (spOk_tog h hn2)
  rw [h2, show spFreeC p m = spFree m from if_pos h, tog_used hb, count_give hb]
  omega

section
variable {P : Program} {o : Oper} {a : Act} {w : World} {Q : Exit → Act → World → Prop} {K : Act → World → Prop} {g : Nat} {t : TypeId} {cs : List Value}
theorem wp_storeS1 (h : SBox w g t cs) (hi : (P.info? t).map (·.size) = some cs.length) (x y : Operand) (ho : o.op = .store t x y) (hx : a.eval x = .pointer (some ⟨g, 0, none⟩)) {ds : List Value} (hy : a.eval y = .agg ds.toArray)
    (hl : ds.length = cs.length) (h1 : ∀ u ∈ ds, u.oneCell' = true)
    (hK : ∀ w', SBox w' g t ds → w.grownBy w' (some g) → w'.heap.size = w.heap.size → K (a.put o.dst undef) w') : o.wp P a w K Q := by
  unfold Oper.wp
  rw [exec_storeS h hi x y ho hx hy hl h1]
  obtain ⟨s1, s2, s3⟩ := h.setRow ds
  exact hK _ s1 s2 s3
theorem wp_appV (s x : Operand) (t : TypeId)
    (ho : o.op = .call { callee := .builtin .append, args := #[s, x], argTypes := #[t, t] })
    (B : Nat) (e : TypeId) (by1 : Nat) (i : TypeInfo) (z : Value) (ht : P.underlying t = some (.slice e)) (hi : P.info? e = some i) (hz : i.zero = some z)
    (hsize : i.size = 1) (hby : i.bytes = by1) (hzs : z.cells.size = 1) (v : Value) (l : List Value) (hs : a.eval s = v) (hown : OwnV w B e v l)
    (xv : Value) (m : List Value) (hxv : a.eval x = xv) (hx : Rowz w xv m) (h1 : ∀ u ∈ m, u.oneCell' = true)
    (hlen : (l.length + m.length) * by1 ≤ 140737488355328) (hml : l.length + m.length ≤ maxLen) (hbase : B ≤ w.heap.size)
    (h : ∀ v' w', OwnV w' B e v' (l ++ m) → w.grownBy w' v.ownBlock → (v'.ownBlock = v.ownBlock ∨ v'.ownBlock = some w.heap.size) → K (a.put o.dst v') w') : o.wp P a w K Q := by
  obtain ⟨v', w', hrun, h2, h3, h4⟩ := run_appV (P := P) w B t o.type e by1 i z ht hi hz hsize hby hzs v xv l m hown hx h1 hlen hml hbase
  unfold Oper.wp execOp
  simp only [ho, resolve, invoke, builtin, Sem.run_bind, Sem.run_pure, Result.andThen_ok, List.map_toArray, List.map_cons, List.map_nil, hs, hxv, hrun]
  exact h _ _ h2 h3 h4
end
end Go.Proofs.Ytncjobeahpjnpaa
