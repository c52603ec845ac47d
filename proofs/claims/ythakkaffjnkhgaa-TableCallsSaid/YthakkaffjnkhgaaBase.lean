/-
  Words for byte slices, over any program: what a slice of bytes holds (Byt), that a call owns it (Own), and append, conversion to a text, and cuts by these words. Conditions: none but those that each theorem names.
-/
import Derived.Test.YthakkaffjnkhgaaRows
import Derived.WalkKit
import Derived.WalkSpells
import Derived.WalkLawsBesides
import Derived.Lib.Hide
import Derived.Maps.AppendAt
import Derived.Laws.BytesArg
import Derived.Lib.SlBytesConst
namespace Go.Proofs.Ythakkaffjnkhgaa
open Go.RowKit
set_option maxRecDepth 100000

/-- Bytes as cells. -/
def byc (l : List UInt8) : List Value := l.map fun b => Value.int .u8 (b.toNat : Int)
theorem byc_len (l : List UInt8) : (byc l).length = l.length := by simp [byc]
theorem byc_app (l m : List UInt8) : byc (l ++ m) = byc l ++ byc m := by simp [byc]
theorem byc_get (l : List UInt8) (j : Nat) (u : Value) (h : (byc l)[j]? = some u) : ∃ hj : j < l.length, u = .int .u8 (l[j].toNat : Int) := by
  have hj : j < (byc l).length := (List.getElem?_eq_some_iff.1 h).1
  rw [byc_len] at hj
  refine ⟨hj, ?_⟩
  simp [byc, List.getElem?_eq_getElem hj] at h
  exact h.symm
theorem byc_one (l : List UInt8) : ∀ u ∈ byc l, u.oneCell' = true := by
  intro u hu
  simp [byc] at hu
  obtain ⟨b, _, rfl⟩ := hu
  rfl

theorem plainAdd (b o j : Nat) : (⟨b, o, none⟩ : Addr).add j = ⟨b, o + j, none⟩ := by unfold Addr.add; split <;> simp_all

/-- The slice value v holds the bytes l. -/
def Byt (w : World) (v : Value) (l : List UInt8) : Prop :=
  ∃ (A : Option Addr) (c : Nat), v = .slice A l.length c ∧ l.length ≤ c ∧ c ≤ maxLen ∧
    (l = [] ∨ ∃ b off, A = some ⟨b, off, none⟩ ∧ b < w.heap.size ∧ ∀ j (hj : j < l.length), w.cell? ⟨b, off + j, none⟩ = some (.int .u8 (l[j].toNat : Int)))

/-- The slice value v holds the bytes l in a row of the call's own, from block B on. -/
def Own (w : World) (B : Nat) (e : TypeId) (v : Value) (l : List UInt8) : Prop := w.ownsRow B e 1 v l.length (byc l)

theorem Byt.nil (w : World) : Byt w (.slice none 0 0) [] := ⟨none, 0, rfl, by simp, by simp [maxLen], .inl rfl⟩

theorem Own.byt {w : World} {B : Nat} {e : TypeId} {v : Value} {l : List UInt8} (h : Own w B e v l) : Byt w v l := by
  rcases h.2 with ⟨rfl, h0⟩ | ⟨g, cap, cur, rfl, hb, hg, h1, h2, h3, h4⟩
  · have : l = [] := List.eq_nil_of_length_eq_zero h0
    subst this
    exact Byt.nil w
  · refine ⟨_, cap, rfl, h1, h2, .inr ⟨g, 0, rfl, ?_, fun j hj => ?_⟩⟩
    · rcases Nat.lt_or_ge g w.heap.size with hlt | hge
      · exact hlt
      · rw [Array.getElem?_eq_none hge] at hg; cases hg
    · have := World.ownsRow.cells h (g := g) rfl j (.int .u8 (l[j].toNat : Int)) (by simp [byc, hj])
      rw [plainAdd] at this
      exact this

/-- Its shape, the length under a name of its own. -/
theorem Byt.form {w : World} {v : Value} {l : List UInt8} (h : Byt w v l) : ∃ A n c, v = .slice A n c ∧ Hid (n = l.length) ∧ n ≤ c ∧ c ≤ 9223372036854775807 := by
  obtain ⟨A, c, rfl, h1, h2, _⟩ := h
  unfold maxLen at h2
  exact ⟨A, _, c, rfl, rfl, h1, by omega⟩
theorem Byt.keep {w w' : World} {v : Value} {l : List UInt8} (h : Byt w v l) (hs : w.heap.size ≤ w'.heap.size)
    (hk : ∀ b, b < w.heap.size → (∃ off u, w.cell? ⟨b, off, none⟩ = some (.int .u8 u)) → w'.heap[b]? = w.heap[b]?) : Byt w' v l := by
  obtain ⟨A, c, rfl, h1, h2, h3⟩ := h
  refine ⟨A, c, rfl, h1, h2, ?_⟩
  rcases h3 with h3 | ⟨b, off, rfl, hb, hc⟩
  · exact .inl h3
  · by_cases hl : l = []
    · exact .inl hl
    · have h0 : 0 < l.length := List.length_pos_iff.2 hl
      refine .inr ⟨b, off, rfl, by omega, fun j hj => ?_⟩
      rw [← hc j hj]
      exact World.cell?_of_block (a := ⟨b, off + j, none⟩) (hk b hb ⟨_, _, hc 0 h0⟩)
theorem Byt.below {w w' : World} {v : Value} {l : List UInt8} (h : Byt w v l) (hb : Below w.heap.size w w') : Byt w' v l := h.keep hb.size fun b hlt _ => hb.block b hlt
theorem Byt.drew {w : World} {v : Value} {l : List UInt8} (h : Byt w v l) : Byt w.drew v l := h
theorem Byt.alloc {w : World} {v : Value} {l : List UInt8} (h : Byt w v l) (o : Obj) : Byt (w.alloc o) v l :=
  h.below ((Below.refl _ _).alloc (Nat.le_refl _) o)

theorem below_none {w w' : World} (h : w.grownBy w' none) : Below w.heap.size w w' := ⟨h.os, h.tape, h.output, h.size, fun k hk => h.block k hk (by simp)⟩
/-- Below, behind a law that writes the call's own row alone. -/
theorem below_own {B : Nat} {e : TypeId} {a w w' : World} {v : Value} {n : Nat} {xs : List Value} (h : Below B a w) (hB : B ≤ w.heap.size) (ho : w.ownsRow B e 1 v n xs) (hg : w.grownBy w' v.ownBlock) : Below B a w' :=
  h.grown hg hB fun k hk => (ho.lt k hk).1

/-- A literal row of bytes, just laid. -/
theorem Byt.lit (w : World) (e : TypeId) (l : List UInt8) (fz : Nat × Nat) (hl : l.length ≤ maxLen) : Byt (w.alloc (.cells (byc l).toArray e fz)) (.slice (some ⟨w.heap.size, 0, none⟩) l.length l.length) l := by
  refine ⟨_, l.length, rfl, Nat.le_refl _, hl, .inr ⟨w.heap.size, 0, rfl, by simp, fun j hj => ?_⟩⟩
  have hh : (w.alloc (.cells (byc l).toArray e fz)).heap[w.heap.size]? = some (.cells (byc l).toArray e fz) := heap_alloc_new w _
  rw [cell_of_row _ _ _ _ _ _ hh]
  simp [byc, hj]

theorem Byt.lit1 (w : World) (e : TypeId) (x : Int) (b : UInt8) (fz : Nat × Nat) (h : x = (b.toNat : Int)) : Byt (w.alloc (.cells #[.int .u8 x] e fz)) (.slice (some ⟨w.heap.size, 0, none⟩) 1 1) [b] := by
  subst h
  exact Byt.lit w e [b] fz (by simp [maxLen])

theorem Own.keep {w w' : World} {B : Nat} {e : TypeId} {v : Value} {l : List UInt8} (h : Own w B e v l) (hb : Below w.heap.size w w') : Own w' B e v l := by
  refine World.ownsRow.kept (row := none) h ⟨hb.os, hb.tape, hb.output, hb.size, fun k hk _ => hb.block k hk⟩ ?_
  cases v.ownBlock <;> simp

theorem Own.lower {w : World} {B B' : Nat} {e : TypeId} {v : Value} {l : List UInt8} (h : Own w B e v l) (hB : B' ≤ B) : Own w B' e v l := by
  refine ⟨h.1, ?_⟩
  rcases h.2 with h0 | ⟨g, cap, cur, hv, hb, r⟩
  · exact .inl h0
  · exact .inr ⟨g, cap, cur, hv, Nat.le_trans hB hb, r⟩

/-- A cut from k on. -/
theorem Byt.cut {w : World} {A : Option Addr} {n c k : Nat} {l : List UInt8} (h : Byt w (.slice A n c) l) (hk : k ≤ n) :
    Byt w (.slice (if c = k then A else A.map (·.add k)) (n - k) (c - k)) (l.drop k) := by
  obtain ⟨A', c', hv, h1, h2, h3⟩ := h
  injection hv with e1 e2 e3
  subst e1 e2 e3
  refine ⟨_, c - k, by rw [List.length_drop], by rw [List.length_drop]; omega, by omega, ?_⟩
  by_cases hkk : l.length ≤ k
  · exact .inl (List.drop_eq_nil_of_le hkk)
  · rcases h3 with rfl | ⟨b, off, rfl, hb, hc⟩
    · simp at hkk
    · refine .inr ⟨b, off + k, ?_, hb, fun j hj => ?_⟩
      · rw [if_neg (by omega)]; simp [plainAdd]
      · rw [List.length_drop] at hj
        have := hc (k + j) (by omega)
        rw [← Nat.add_assoc] at this
        rw [this, List.getElem_drop]
/-- A cut up to k. -/
theorem Byt.upto {w : World} {A : Option Addr} {n c k : Nat} {l : List UInt8} (h : Byt w (.slice A n c) l) (hk : k ≤ n) :
    Byt w (.slice A k c) (l.take k) := by
  obtain ⟨A', c', hv, h1, h2, h3⟩ := h
  injection hv with e1 e2 e3
  subst e1 e2 e3
  have hlen : (l.take k).length = k := by rw [List.length_take]; omega
  refine ⟨A, c, by rw [hlen], by omega, h2, ?_⟩
  rcases h3 with rfl | ⟨b, off, rfl, hb, hc⟩
  · exact .inl (by simp)
  · refine .inr ⟨b, off, rfl, hb, fun j hj => ?_⟩
    rw [hc j (by omega), List.getElem_take]

/-- A cut from k on, as the walk carries it out: the value under names of its own. -/
theorem Byt.cutrun {P : Program} {w : World} {A : Option Addr} {n c : Nat} {l : List UInt8} (t : TypeId) (ht : P.underlying t = some (.slice (P.elem t))) (hsz : ∀ W, (sizeOf (P.elem t)).run P W = .ok 1 W)
    (h : Byt w (.slice A n c) l) (k : Nat) (hk : k ≤ n) (kd : IntKind) :
    ∃ A1 n1 c1, (∀ W, (Instr.slice t (.slice A n c) (some (.int kd (k : Int))) none none).run P W = .ok (.slice A1 n1 c1) W) ∧ Byt w (.slice A1 n1 c1) (l.drop k) ∧ Hid (n1 + k = n) ∧ n1 ≤ c1 ∧ c1 ≤ 9223372036854775807 := by
  have hc := h.cut hk
  obtain ⟨A', c', hv, h1, h2, _⟩ := hc
  injection hv with e1 e2 e3
  refine ⟨_, _, _, fun W => ?_, h.cut hk, show n - k + k = n by omega, by omega, by unfold maxLen at h2; omega⟩
  rw [run_slice_l W t A n c ht kd (k : Int) (by omega) (by omega), hsz]
  simp [Result.andThen, sliced]
theorem Byt.uptorun {P : Program} {w : World} {A : Option Addr} {n c : Nat} {l : List UInt8} (t : TypeId) (ht : P.underlying t = some (.slice (P.elem t))) (hsz : ∀ W, (sizeOf (P.elem t)).run P W = .ok 1 W)
    (h : Byt w (.slice A n c) l) (k : Nat) (hk : k ≤ n) (kd : IntKind) :
    ∃ A1 n1 c1, (∀ W, (Instr.slice t (.slice A n c) none (some (.int kd (k : Int))) none).run P W = .ok (.slice A1 n1 c1) W) ∧ Byt w (.slice A1 n1 c1) (l.take k) ∧ Hid (n1 = k) ∧ n1 ≤ c1 ∧ c1 ≤ 9223372036854775807 := by
  have hc := h.upto hk
  obtain ⟨A', c', hv, h1, h2, _⟩ := hc
  injection hv with e1 e2 e3
  subst e3
  refine ⟨A, k, c, fun W => ?_, h.upto hk, rfl, by omega, by unfold maxLen at h2; omega⟩
  rw [run_slice_h W t A n c ht kd (k : Int) (by omega) (by omega), hsz]
  cases A <;> simp [Result.andThen, sliced, Addr.add]

section
variable {P : Program} (w : World)

theorem run_app (B : Nat) (t ty e : TypeId) (i : TypeInfo) (z : Value) (ht : P.underlying t = some (.slice e)) (hi : P.info? e = some i) (hz : i.zero = some z)
    (hsize : i.size = 1) (hby : i.bytes = 1) (hzs : z.cells.size = 1) (v x : Value) (l m : List UInt8) (hown : Own w B e v l) (hx : Byt w x m)
    (hlen : l.length + m.length ≤ 140737488355328) (hbase : B ≤ w.heap.size) :
    ∃ v' w', (Builtin.append_ #[t, t] ty #[v, x]).run P w = .ok v' w' ∧ Own w' B e v' (l ++ m) ∧ w.grownBy w' v.ownBlock ∧ (v'.ownBlock = v.ownBlock ∨ v'.ownBlock = some w.heap.size) := by
  obtain ⟨A, c, rfl, h1, h2, h3⟩ := hx
  have hml : l.length + m.length ≤ maxLen := by simp only [maxLen]; omega
  cases A with
  | none =>
    have hm : m = [] := by
      rcases h3 with h3 | ⟨b, off, h, _⟩
      · exact h3
      · cases h
    subst hm
    refine ⟨v, w, ?_, by simpa using hown, World.grownBy.refl w _, .inl rfl⟩
    rcases hown.2 with ⟨rfl, _⟩ | ⟨g, cap, cur, rfl, _, _, hnc, _⟩
    · simp [Builtin.append_, run_underlying ht, sizeOf, typeInfo, hi, Builtin.lenOf, Builtin.firstCells]
    · simp [Builtin.append_, run_underlying ht, sizeOf, typeInfo, hi, Builtin.lenOf, Builtin.firstCells, hnc, storeCells]
  | some ad =>
    have hcells : ∀ j u, (byc m)[j]? = some u → w.cell? (ad.add j) = some u := by
      intro j u hu
      obtain ⟨hj, rfl⟩ := byc_get m j u hu
      rcases h3 with rfl | ⟨b, off, h, _, hc⟩
      · simp at hj
      · injection h with h
        subst h
        rw [plainAdd]
        exact hc j hj
    obtain ⟨v', w', hrun, g2, g3, _, g5⟩ := run_append_own_at (P := P) w B t ty e i z 1 1 ht hi hz hsize hby hzs (by omega) v l.length (byc l) hown ad m.length c (byc m)
      (by rw [byc_len]; omega) hcells (byc_one m) hml (by omega) hbase
    refine ⟨v', w', hrun, ?_, g3, g5⟩
    unfold Own
    rw [byc_app, List.length_append]
    exact g2

theorem wp_app {o : Oper} {a : Act} {K : Act → World → Prop} {Q : Exit → Act → World → Prop} (s x : Operand) (t : TypeId)
    (ho : o.op = .call { callee := .builtin .append, args := #[s, x], argTypes := #[t, t] })
    (B : Nat) (e : TypeId) (i : TypeInfo) (z : Value) (ht : P.underlying t = some (.slice e)) (hi : P.info? e = some i) (hz : i.zero = some z)
    (hsize : i.size = 1) (hby : i.bytes = 1) (hzs : z.cells.size = 1) (v : Value) (l : List UInt8) (hs : a.eval s = v) (hown : Own w B e v l)
    (xv : Value) (m : List UInt8) (hxv : a.eval x = xv) (hx : Byt w xv m)
    (hlen : l.length + m.length ≤ 140737488355328) (hbase : B ≤ w.heap.size)
    (h : ∀ v' w', Own w' B e v' (l ++ m) → w.grownBy w' v.ownBlock → (v'.ownBlock = v.ownBlock ∨ v'.ownBlock = some w.heap.size) → K (a.put o.dst v') w') : o.wp P a w K Q := by
  obtain ⟨v', w', hrun, h2, h3, h4⟩ := run_app (P := P) w B t o.type e i z ht hi hz hsize hby hzs v xv l m hown hx hlen hbase
  unfold Oper.wp execOp
  simp only [ho, resolve, invoke, builtin, Sem.run_bind, Sem.run_pure, Result.andThen_ok, List.map_toArray, List.map_cons, List.map_nil, hs, hxv, hrun]
  exact h v' w' h2 h3 h4

theorem wpList_app {ops : Array Oper} {rest : List Oper} {o : Oper} {a : Act} {Q : Exit → Act → World → Prop} (hgd : o.guard = none) (s x : Operand) (t : TypeId)
    (ho : o.op = .call { callee := .builtin .append, args := #[s, x], argTypes := #[t, t] })
    (B : Nat) (e : TypeId) (i : TypeInfo) (z : Value) (ht : P.underlying t = some (.slice e)) (hi : P.info? e = some i) (hz : i.zero = some z)
    (hsize : i.size = 1) (hby : i.bytes = 1) (hzs : z.cells.size = 1) (v : Value) (l : List UInt8) (hs : a.eval s = v) (hown : Own w B e v l)
    (xv : Value) (m : List UInt8) (hxv : a.eval x = xv) (hx : Byt w xv m)
    (hlen : l.length + m.length ≤ 140737488355328) (hbase : B ≤ w.heap.size)
    (h : ∀ v' w', Own w' B e v' (l ++ m) → w.grownBy w' v.ownBlock → (v'.ownBlock = v.ownBlock ∨ v'.ownBlock = some w.heap.size) → wpList P ops Q rest (a.put o.dst v') w') : wpList P ops Q (o :: rest) a w :=
  wpList_plain hgd fun _ hK => wp_app w s x t ho B e i z ht hi hz hsize hby hzs v l hs hown xv m hxv hx hlen hbase fun v' w' h2 h3 h4 => hK _ _ (h v' w' h2 h3 h4)

/-- 'string(b)' -/
theorem run_text (src dst e : TypeId) (hs : P.underlying src = some (.slice e)) (he : P.underlying e = some (.int .u8)) (hd : P.underlying dst = some .string) (v : Value) (l : List UInt8) (h : Byt w v l) :
    (convert src dst v).run P w = .ok (.string ⟨l.toArray⟩) w := by
  obtain ⟨A, c, rfl, h1, h2, h3⟩ := h
  cases A with
  | none =>
    have hm : l = [] := by
      rcases h3 with h3 | ⟨b, off, h, _⟩
      · exact h3
      · cases h
    subst hm
    rw [run_convert_bytes_nil w src e hs he _ c dst hd]
    rfl
  | some ad =>
    refine run_convert_bytes_back w src dst e ad c l hs he hd fun j hj => ?_
    rcases h3 with rfl | ⟨b, off, h, _, hc⟩
    · simp at hj
    · injection h with h
      subst h
      rw [plainAdd]
      exact hc j hj
end
end Go.Proofs.Ythakkaffjnkhgaa
