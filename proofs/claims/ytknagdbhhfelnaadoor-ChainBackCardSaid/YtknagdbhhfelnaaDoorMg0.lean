/-
  The texts Base, Made, Num, Rowq, Oct1, Oct2, Read1, Read2, Read3, Read4, Read5, Text in one. Conditions: as each part says.
-/
import Derived.Test.YtknagdbhhfelnaaDoorRows
import Derived.WalkKit
import Derived.WalkSpells
import Derived.WalkLawsBesides
import Derived.Lib.Hide
import Derived.Maps.AppendAt
import Derived.Laws.BytesArg
import Derived.Lib.SlBytesConst
import Derived.IntWalk
import Derived.Laws.BitsAllLaws
import Derived.Lib.ConvBytes
/-
  Words for byte slices, over any program: what a slice of bytes holds (Byt), that a call owns it (Own), and append, conversion to a text, and cuts by these words. Conditions: none but those that each theorem names.
-/
namespace Go.Proofs.YtknagdbhhfelnaaDoor
open Go.RowKit
set_option maxRecDepth 100000

/-- Bytes as cells. -/
def byc (l : List UInt8) : List Value := l.map fun b => Value.int .u8 (b.toNat : Int)
theorem byc_len (l : List UInt8) : (byc l).length = l.length := by simp [byc]
theorem byc_app (l m : List UInt8) : byc (l ++ m) = byc l ++ byc m := by simp [byc]
theorem byc_get (l : List UInt8) (j : Nat) (u : Value) (h : (byc l)[j]? = some u) : ∃ hj : j < l.length, u = .int .u8 (l[j].toNat : Int) := by
  have hj : j < (byc l).length := (List.getElem?_eq_some_iff.1 h).1
  rw [byc_len] at hj
  refine ⟨hj, ?_⟩
  simp [byc, List.getElem?_eq_getElem hj] at h
  exact h.symm
theorem byc_one (l : List UInt8) : ∀ u ∈ byc l, u.oneCell' = true := by
  intro u hu
  simp [byc] at hu
  obtain ⟨b, _, rfl⟩ := hu
  rfl

theorem plainAdd (b o j : Nat) : (⟨b, o, none⟩ : Addr).add j = ⟨b, o + j, none⟩ := by unfold Addr.add; split <;> simp_all

/-- The slice value v holds the bytes l. -/
def Byt (w : World) (v : Value) (l : List UInt8) : Prop :=
  ∃ (A : Option Addr) (c : Nat), v = .slice A l.length c ∧ l.length ≤ c ∧ c ≤ maxLen ∧
    (l = [] ∨ ∃ b off, A = some ⟨b, off, none⟩ ∧ b < w.heap.size ∧ ∀ j (hj : j < l.length), w.cell? ⟨b, off + j, none⟩ = some (.int .u8 (l[j].toNat : Int)))

/-- The slice value v holds the bytes l in a row of the call's own, from block B on. -/
def Own (w : World) (B : Nat) (e : TypeId) (v : Value) (l : List UInt8) : Prop := w.ownsRow B e 1 v l.length (byc l)

theorem Byt.nil (w : World) : Byt w (.slice none 0 0) [] := ⟨none, 0, rfl, by simp, by simp [maxLen], .inl rfl⟩

theorem Own.byt {w : World} {B : Nat} {e : TypeId} {v : Value} {l : List UInt8} (h : Own w B e v l) : Byt w v l := by
  rcases h.2 with ⟨rfl, h0⟩ | ⟨g, cap, cur, rfl, hb, hg, h1, h2, h3, h4⟩
  · have : l = [] := List.eq_nil_of_length_eq_zero h0
    subst this
    exact Byt.nil w
  · refine ⟨_, cap, rfl, h1, h2, .inr ⟨g, 0, rfl, ?_, fun j hj => ?_⟩⟩
    · rcases Nat.lt_or_ge g w.heap.size with hlt | hge
      · exact hlt
      · rw [Array.getElem?_eq_none hge] at hg; cases hg
    · have := World.ownsRow.cells h (g := g) rfl j (.int .u8 (l[j].toNat : Int)) (by simp [byc, hj])
      rw [plainAdd] at this
      exact this

/-- Its shape, the length under a name of its own. -/
theorem Byt.form {w : World} {v : Value} {l : List UInt8} (h : Byt w v l) : ∃ A n c, v = .slice A n c ∧ Hid (n = l.length) ∧ n ≤ c ∧ c ≤ 9223372036854775807 := by
  obtain ⟨A, c, rfl, h1, h2, _⟩ := h
  unfold maxLen at h2
  exact ⟨A, _, c, rfl, rfl, h1, by omega⟩
theorem Byt.keep {w w' : World} {v : Value} {l : List UInt8} (h : Byt w v l) (hs : w.heap.size ≤ w'.heap.size)
    (hk : ∀ b, b < w.heap.size → (∃ off u, w.cell? ⟨b, off, none⟩ = some (.int .u8 u)) → w'.heap[b]? = w.heap[b]?) : Byt w' v l := by
  obtain ⟨A, c, rfl, h1, h2, h3⟩ := h
  refine ⟨A, c, rfl, h1, h2, ?_⟩
  rcases h3 with h3 | ⟨b, off, rfl, hb, hc⟩
  · exact .inl h3
  · by_cases hl : l = []
    · exact .inl hl
    · have h0 : 0 < l.length := List.length_pos_iff.2 hl
      refine .inr ⟨b, off, rfl, by omega, fun j hj => ?_⟩
      rw [← hc j hj]
      exact World.cell?_of_block (a := ⟨b, off + j, none⟩) (hk b hb ⟨_, _, hc 0 h0⟩)
theorem Byt.below {w w' : World} {v : Value} {l : List UInt8} (h : Byt w v l) (hb : Below w.heap.size w w') : Byt w' v l := h.keep hb.size fun b hlt _ => hb.block b hlt
theorem Byt.drew {w : World} {v : Value} {l : List UInt8} (h : Byt w v l) : Byt w.drew v l := h
theorem Byt.alloc {w : World} {v : Value} {l : List UInt8} (h : Byt w v l) (o : Obj) : Byt (w.alloc o) v l :=
  h.below ((Below.refl _ _).alloc (Nat.le_refl _) o)

theorem below_none {w w' : World} (h : w.grownBy w' none) : Below w.heap.size w w' := ⟨h.os, h.tape, h.output, h.size, fun k hk => h.block k hk (by simp)⟩
/-- Below, behind a law that writes the call's own row alone. -/
theorem below_own {B : Nat} {e : TypeId} {a w w' : World} {v : Value} {n : Nat} {xs : List Value} (h : Below B a w) (hB : B ≤ w.heap.size) (ho : w.ownsRow B e 1 v n xs) (hg : w.grownBy w' v.ownBlock) : Below B a w' :=
  h.grown hg hB fun k hk => (ho.lt k hk).1

/-- A literal row of bytes, just laid. -/
theorem Byt.lit (w : World) (e : TypeId) (l : List UInt8) (fz : Nat × Nat) (hl : l.length ≤ maxLen) : Byt (w.alloc (.cells (byc l).toArray e fz)) (.slice (some ⟨w.heap.size, 0, none⟩) l.length l.length) l := by
  refine ⟨_, l.length, rfl, Nat.le_refl _, hl, .inr ⟨w.heap.size, 0, rfl, by simp, fun j hj => ?_⟩⟩
  have hh : (w.alloc (.cells (byc l).toArray e fz)).heap[w.heap.size]? = some (.cells (byc l).toArray e fz) := heap_alloc_new w _
  rw [cell_of_row _ _ _ _ _ _ hh]
  simp [byc, hj]

theorem Byt.lit1 (w : World) (e : TypeId) (x : Int) (b : UInt8) (fz : Nat × Nat) (h : x = (b.toNat : Int)) : Byt (w.alloc (.cells #[.int .u8 x] e fz)) (.slice (some ⟨w.heap.size, 0, none⟩) 1 1) [b] := by
  subst h
  exact Byt.lit w e [b] fz (by simp [maxLen])

theorem Own.keep {w w' : World} {B : Nat} {e : TypeId} {v : Value} {l : List UInt8} (h : Own w B e v l) (hb : Below w.heap.size w w') : Own w' B e v l := by
  refine World.ownsRow.kept (row := none) h ⟨hb.os, hb.tape, hb.output, hb.size, fun k hk _ => hb.block k hk⟩ ?_
  cases v.ownBlock <;> simp

theorem Own.lower {w : World} {B B' : Nat} {e : TypeId} {v : Value} {l : List UInt8} (h : Own w B e v l) (hB : B' ≤ B) : Own w B' e v l := by
  refine ⟨h.1, ?_⟩
  rcases h.2 with h0 | ⟨g, cap, cur, hv, hb, r⟩
  · exact .inl h0
  · exact .inr ⟨g, cap, cur, hv, Nat.le_trans hB hb, r⟩

/-- A cut from k on. -/
theorem Byt.cut {w : World} {A : Option Addr} {n c k : Nat} {l : List UInt8} (h : Byt w (.slice A n c) l) (hk : k ≤ n) :
    Byt w (.slice (if c = k then A else A.map (·.add k)) (n - k) (c - k)) (l.drop k) := by
  obtain ⟨A', c', hv, h1, h2, h3⟩ := h
  injection hv with e1 e2 e3
  subst e1 e2 e3
  refine ⟨_, c - k, by rw [List.length_drop], by rw [List.length_drop]; omega, by omega, ?_⟩
  by_cases hkk : l.length ≤ k
  · exact .inl (List.drop_eq_nil_of_le hkk)
  · rcases h3 with rfl | ⟨b, off, rfl, hb, hc⟩
    · simp at hkk
    · refine .inr ⟨b, off + k, ?_, hb, fun j hj => ?_⟩
      · rw [if_neg (by omega)]; simp [plainAdd]
      · rw [List.length_drop] at hj
        have := hc (k + j) (by omega)
        rw [← Nat.add_assoc] at this
        rw [this, List.getElem_drop]
/-- A cut up to k. -/
theorem Byt.upto {w : World} {A : Option Addr} {n c k : Nat} {l : List UInt8} (h : Byt w (.slice A n c) l) (hk : k ≤ n) :
    Byt w (.slice A k c) (l.take k) := by
  obtain ⟨A', c', hv, h1, h2, h3⟩ := h
  injection hv with e1 e2 e3
  subst e1 e2 e3
  have hlen : (l.take k).length = k := by rw [List.length_take]; omega
  refine ⟨A, c, by rw [hlen], by omega, h2, ?_⟩
  rcases h3 with rfl | ⟨b, off, rfl, hb, hc⟩
  · exact .inl (by simp)
  · refine .inr ⟨b, off, rfl, hb, fun j hj => ?_⟩
    rw [hc j (by omega), List.getElem_take]

/-- A cut from k on, as the walk carries it out: the value under names of its own. -/
theorem Byt.cutrun {P : Program} {w : World} {A : Option Addr} {n c : Nat} {l : List UInt8} (t : TypeId) (ht : P.underlying t = some (.slice (P.elem t))) (hsz : ∀ W, (sizeOf (P.elem t)).run P W = .ok 1 W)
    (h : Byt w (.slice A n c) l) (k : Nat) (hk : k ≤ n) (kd : IntKind) :
    ∃ A1 n1 c1, (∀ W, (Instr.slice t (.slice A n c) (some (.int kd (k : Int))) none none).run P W = .ok (.slice A1 n1 c1) W) ∧ Byt w (.slice A1 n1 c1) (l.drop k) ∧ Hid (n1 + k = n) ∧ n1 ≤ c1 ∧ c1 ≤ 9223372036854775807 := by
  have hc := h.cut hk
  obtain ⟨A', c', hv, h1, h2, _⟩ := hc
  injection hv with e1 e2 e3
  refine ⟨_, _, _, fun W => ?_, h.cut hk, show n - k + k = n by omega, by omega, by unfold maxLen at h2; omega⟩
  rw [run_slice_l W t A n c ht kd (k : Int) (by omega) (by omega), hsz]
  simp [Result.andThen, sliced]
theorem Byt.uptorun {P : Program} {w : World} {A : Option Addr} {n c : Nat} {l : List UInt8} (t : TypeId) (ht : P.underlying t = some (.slice (P.elem t))) (hsz : ∀ W, (sizeOf (P.elem t)).run P W = .ok 1 W)
    (h : Byt w (.slice A n c) l) (k : Nat) (hk : k ≤ n) (kd : IntKind) :
    ∃ A1 n1 c1, (∀ W, (Instr.slice t (.slice A n c) none (some (.int kd (k : Int))) none).run P W = .ok (.slice A1 n1 c1) W) ∧ Byt w (.slice A1 n1 c1) (l.take k) ∧ Hid (n1 = k) ∧ n1 ≤ c1 ∧ c1 ≤ 9223372036854775807 := by
  have hc := h.upto hk
  obtain ⟨A', c', hv, h1, h2, _⟩ := hc
  injection hv with e1 e2 e3
  subst e3
  refine ⟨A, k, c, fun W => ?_, h.upto hk, rfl, by omega, by unfold maxLen at h2; omega⟩
  rw [run_slice_h W t A n c ht kd (k : Int) (by omega) (by omega), hsz]
  cases A <;> simp [Result.andThen, sliced, Addr.add]

section
variable {P : Program} (w : World)

theorem run_app (B : Nat) (t ty e : TypeId) (i : TypeInfo) (z : Value) (ht : P.underlying t = some (.slice e)) (hi : P.info? e = some i) (hz : i.zero = some z)
    (hsize : i.size = 1) (hby : i.bytes = 1) (hzs : z.cells.size = 1) (v x : Value) (l m : List UInt8) (hown : Own w B e v l) (hx : Byt w x m)
    (hlen : l.length + m.length ≤ 140737488355328) (hbase : B ≤ w.heap.size) :
    ∃ v' w', (Builtin.append_ #[t, t] ty #[v, x]).run P w = .ok v' w' ∧ Own w' B e v' (l ++ m) ∧ w.grownBy w' v.ownBlock ∧ (v'.ownBlock = v.ownBlock ∨ v'.ownBlock = some w.heap.size) := by
  obtain ⟨A, c, rfl, h1, h2, h3⟩ := hx
  have hml : l.length + m.length ≤ maxLen := by simp only [maxLen]; omega
  cases A with
  | none =>
    have hm : m = [] := by
      rcases h3 with h3 | ⟨b, off, h, _⟩
      · exact h3
      · cases h
    subst hm
    refine ⟨v, w, ?_, by simpa using hown, World.grownBy.refl w _, .inl rfl⟩
    rcases hown.2 with ⟨rfl, _⟩ | ⟨g, cap, cur, rfl, _, _, hnc, _⟩
    · simp [Builtin.append_, run_underlying ht, sizeOf, typeInfo, hi, Builtin.lenOf, Builtin.firstCells]
    · simp [Builtin.append_, run_underlying ht, sizeOf, typeInfo, hi, Builtin.lenOf, Builtin.firstCells, hnc, storeCells]
  | some ad =>
    have hcells : ∀ j u, (byc m)[j]? = some u → w.cell? (ad.add j) = some u := by
      intro j u hu
      obtain ⟨hj, rfl⟩ := byc_get m j u hu
      rcases h3 with rfl | ⟨b, off, h, _, hc⟩
      · simp at hj
      · injection h with h
        subst h
        rw [plainAdd]
        exact hc j hj
    obtain ⟨v', w', hrun, g2, g3, _, g5⟩ := run_append_own_at (P := P) w B t ty e i z 1 1 ht hi hz hsize hby hzs (by omega) v l.length (byc l) hown ad m.length c (byc m)
      (by rw [byc_len]; omega) hcells (byc_one m) hml (by omega) hbase
    refine ⟨v', w', hrun, ?_, g3, g5⟩
    unfold Own
    rw [byc_app, List.length_append]
    exact g2

theorem wp_app {o : Oper} {a : Act} {K : Act → World → Prop} {Q : Exit → Act → World → Prop} (s x : Operand) (t : TypeId)
    (ho : o.op = .call { callee := .builtin .append, args := #[s, x], argTypes := #[t, t] })
    (B : Nat) (e : TypeId) (i : TypeInfo) (z : Value) (ht : P.underlying t = some (.slice e)) (hi : P.info? e = some i) (hz : i.zero = some z)
    (hsize : i.size = 1) (hby : i.bytes = 1) (hzs : z.cells.size = 1) (v : Value) (l : List UInt8) (hs : a.eval s = v) (hown : Own w B e v l)
    (xv : Value) (m : List UInt8) (hxv : a.eval x = xv) (hx : Byt w xv m)
    (hlen : l.length + m.length ≤ 140737488355328) (hbase : B ≤ w.heap.size)
    (h : ∀ v' w', Own w' B e v' (l ++ m) → w.grownBy w' v.ownBlock → (v'.ownBlock = v.ownBlock ∨ v'.ownBlock = some w.heap.size) → K (a.put o.dst v') w') : o.wp P a w K Q := by
  obtain ⟨v', w', hrun, h2, h3, h4⟩ := run_app (P := P) w B t o.type e i z ht hi hz hsize hby hzs v xv l m hown hx hlen hbase
  unfold Oper.wp execOp
  simp only [ho, resolve, invoke, builtin, Sem.run_bind, Sem.run_pure, Result.andThen_ok, List.map_toArray, List.map_cons, List.map_nil, hs, hxv, hrun]
  exact h v' w' h2 h3 h4

theorem wpList_app {ops : Array Oper} {rest : List Oper} {o : Oper} {a : Act} {Q : Exit → Act → World → Prop} (hgd : o.guard = none) (s x : Operand) (t : TypeId)
    (ho : o.op = .call { callee := .builtin .append, args := #[s, x], argTypes := #[t, t] })
    (B : Nat) (e : TypeId) (i : TypeInfo) (z : Value) (ht : P.underlying t = some (.slice e)) (hi : P.info? e = some i) (hz : i.zero = some z)
    (hsize : i.size = 1) (hby : i.bytes = 1) (hzs : z.cells.size = 1) (v : Value) (l : List UInt8) (hs : a.eval s = v) (hown : Own w B e v l)
    (xv : Value) (m : List UInt8) (hxv : a.eval x = xv) (hx : Byt w xv m)
    (hlen : l.length + m.length ≤ 140737488355328) (hbase : B ≤ w.heap.size)
    (h : ∀ v' w', Own w' B e v' (l ++ m) → w.grownBy w' v.ownBlock → (v'.ownBlock = v.ownBlock ∨ v'.ownBlock = some w.heap.size) → wpList P ops Q rest (a.put o.dst v') w') : wpList P ops Q (o :: rest) a w :=
  wpList_plain hgd fun _ hK => wp_app w s x t ho B e i z ht hi hz hsize hby hzs v l hs hown xv m hxv hx hlen hbase fun v' w' h2 h3 h4 => hK _ _ (h v' w' h2 h3 h4)

/-- 'string(b)' -/
theorem run_text (src dst e : TypeId) (hs : P.underlying src = some (.slice e)) (he : P.underlying e = some (.int .u8)) (hd : P.underlying dst = some .string) (v : Value) (l : List UInt8) (h : Byt w v l) :
    (convert src dst v).run P w = .ok (.string ⟨l.toArray⟩) w := by
  obtain ⟨A, c, rfl, h1, h2, h3⟩ := h
  cases A with
  | none =>
    have hm : l = [] := by
      rcases h3 with h3 | ⟨b, off, h, _⟩
      · exact h3
      · cases h
    subst hm
    rw [run_convert_bytes_nil w src e hs he _ c dst hd]
    rfl
  | some ad =>
    refine run_convert_bytes_back w src dst e ad c l hs he hd fun j hj => ?_
    rcases h3 with rfl | ⟨b, off, h, _, hc⟩
    · simp at hj
    · injection h with h
      subst h
      rw [plainAdd]
      exact hc j hj
end
end Go.Proofs.YtknagdbhhfelnaaDoor

/-
  What calls make and leave, and the kit's own two small functions: Own (a copy of bytes), Pick (a place among so many). Conditions: bytes are fewer than 2^46.
-/
namespace Go.Proofs.YtknagdbhhfelnaaDoor
open Go.RowKit
set_option maxRecDepth 100000

theorem uinfo : (Tryd.prog.info? 5).map (fun i => (i.zero, i.size, i.bytes)) = some (some (.int .u8 0), 1, 1) := by kernel_rfl

/-- What a call that makes a list of bytes of its own leaves. -/
def Made (w : World) (l : List UInt8) (e : Ending) (w' : World) : Prop :=
  ∃ v, e = .returned v ∧ Own w' w.heap.size 5 v l ∧ Below w.heap.size w w'
theorem made_mk {w w' : World} {v : Value} {l : List UInt8} (ho : Own w' w.heap.size 5 v l) (hb : Below w.heap.size w w') : Made w l (.returned v) w' := ⟨v, rfl, ho, hb⟩

theorem made_list {w : World} {l m : List UInt8} {e : Ending} {w' : World} (h : Made w l e w') (hl : l = m) : Made w m e w' := hl ▸ h

theorem Own.empty (w : World) : Own (w.alloc (.cells #[] 5)) w.heap.size 5 (.slice (some ⟨w.heap.size, 0, none⟩) 0 0) [] :=
  World.ownsRow_lit (base := w.heap.size) (e := 5) (size := 1) w #[] 0 (Nat.le_refl _) (by simp [maxLen]) rfl
theorem below_new (w : World) (o : Obj) : Below w.heap.size w (w.alloc o) := (Below.refl _ _).alloc (Nat.le_refl _) o

set_option maxHeartbeats 400000 in
theorem kitown_any (w : World) (x : Value) (l : List UInt8) (hx : Byt w x l) (hlen : l.length ≤ 70368744177664) :
    Calls Tryd.prog 19 #[x] w (Made w l) := by
  obtain ⟨i0, hi0, hz0, hz1, hz2⟩ := info_parts uinfo
  have HX := Lib.hid hx
  clear hx
  have HE := Lib.hid (Own.empty w)
  go_enter Tryd.func19, Tryd.ntmps19
  go_wp2_with (at_builtin; refine wpList_app _ rfl (.tmp 3) (.tmp 4) _ rfl w.heap.size 5 i0 _ Tryd.underlying27 hi0 hz0 hz1 hz2 rfl _ [] rfl HE.out _ l rfl (HX.out.alloc _) (by simp; omega) (by simp) ?_; intro v1 w1 hown1 hg1 hat1; have hb1 := below_own (below_new w _) (by simp) HE.out hg1)
  go_ret
  exact made_mk (by simpa using hown1) hb1

theorem sizeByte : ∀ W, (sizeOf (Tryd.prog.elem 27)).run Tryd.prog W = .ok 1 W := fun _ => by kernel_rfl
theorem elemByte : Tryd.prog.underlying 27 = some (.slice (Tryd.prog.elem 27)) := by kernel_rfl

theorem ret_int {k : IntKind} {a b : Int} (h : a = b) : Ending.returned (.int k a) = .returned (.int k b) := by rw [h]

theorem ne_int {a b : Nat} (h : a ≠ b) : ((a : Int) == (b : Int)) = false := by
  rw [beq_eq_false_iff_ne]; omega

theorem pick_is (x n : Int) (hn : 1 ≤ n) : (if x.tmod n < 0 then x.tmod n + n else x.tmod n) = x % n := by
  have h1 := Int.emod_lt_of_pos x (show 0 < n by omega)
  have h2 := Int.emod_nonneg x (show n ≠ 0 by omega)
  have h3 := Int.tmod_eq_emod (a := x) (b := n)
  split at h3
  · rw [if_neg (by omega)]; omega
  · rename_i h4
    have h5 : (n.natAbs : Int) = n := by omega
    have h6 : x % n ≠ 0 := fun h => h4 (.inr (Int.dvd_of_emod_eq_zero h))
    rw [if_pos (by omega)]; omega

theorem pick_any (x n : Int) (w : World) (hn : 1 ≤ n) (hn2 : n ≤ 9223372036854775807) :
    Calls Tryd.prog 14 #[.int .i64 (x : Int), .int .i64 n] w fun e w' => e = .returned (.int .i64 (x % n)) ∧ w = w' := by
  have HB := Lib.hid (pick_is x n hn)
  have HC := Lib.hid (Int.emod_lt_of_pos x (show 0 < n by omega))
  have HD := Lib.hid (Int.emod_nonneg x (show n ≠ 0 by omega))
  go_enter Tryd.func14, Tryd.ntmps14
  go_wp2
  · go_ret
    exact ⟨ret_int (by have := HB.out; rw [if_pos ‹_›] at this; have := HC.out; have := HD.out; unfold wrap64; omega), rfl⟩
  · go_ret
    exact ⟨ret_int (by rw [← HB.out, if_neg (by omega)]), rfl⟩
end Go.Proofs.YtknagdbhhfelnaaDoor

/-
  Plain functions on numbers and bytes: a number's bytes, a word's bytes, and how they are read. No program is named here.
-/
namespace Go.Proofs.YtknagdbhhfelnaaDoor
set_option maxRecDepth 100000

/-- A number's bytes, with fuel. -/
def numF : Nat → Nat → List UInt8
  | 0, n => [UInt8.ofNat n]
  | f + 1, n => if n < 128 then [UInt8.ofNat n] else UInt8.ofNat (n % 128 + 128) :: numF f (n / 128)
def numB (n : Nat) : List UInt8 := numF 9 n

theorem numF_small (f n : Nat) (h : n < 128) : numF f n = [UInt8.ofNat n] := by cases f <;> simp [numF, h]
theorem numF_step (f n : Nat) (h : 128 ≤ n) : numF (f + 1) n = UInt8.ofNat (n % 128 + 128) :: numF f (n / 128) := by
  rw [numF, if_neg (by omega)]
theorem numF_len (f n : Nat) : 1 ≤ (numF f n).length ∧ (numF f n).length ≤ f + 1 := by
  induction f generalizing n with
  | zero => simp [numF]
  | succ f ih =>
    unfold numF
    split
    · simp
    · have := ih (n / 128)
      simp only [List.length_cons]
      omega
theorem numB_len (n : Nat) : 1 ≤ (numB n).length ∧ (numB n).length ≤ 10 := numF_len 9 n

theorem u8n (n : Nat) : (UInt8.ofNat n).toNat = n % 256 := UInt8.toNat_ofNat'
theorem or128 : ∀ a : Fin 256, bits .or .u8 (a.val : Int) 128 = ((a.val % 128 + 128 : Nat) : Int) := by decide +kernel
theorem or128_nat (m : Nat) : bits .or .u8 ((m : Int) % 256) 128 = ((UInt8.ofNat (m % 128 + 128)).toNat : Int) := by
  have h := or128 ⟨m % 256, Nat.mod_lt _ (by omega)⟩
  have e : ((m : Int) % 256) = ((m % 256 : Nat) : Int) := by omega
  rw [e, h, u8n]
  show ((m % 256 % 128 + 128 : Nat) : Int) = _
  omega
theorem byte_nat (m : Nat) (h : m < 256) : (m : Int) = ((UInt8.ofNat m).toNat : Int) := by
  rw [u8n]; omega
theorem byte_mod (m : Nat) : (m : Int) % 256 = ((UInt8.ofNat m).toNat : Int) := by
  rw [u8n]; omega

theorem byte_shift (n j : Nat) : (n : Int) / 2 ^ (8 * j) % 256 = ((UInt8.ofNat (n / 256 ^ j % 256)).toNat : Int) := by
  have e : (n : Int) / 2 ^ (8 * j) = ((n / 256 ^ j : Nat) : Int) := by
    rw [show (256 : Nat) = 2 ^ 8 from rfl, ← Nat.pow_mul]
    push_cast
    rfl
  rw [e, u8n]
  omega

/-- A word's bytes. -/
def wordB : Nat → Nat → List UInt8
  | 0, _ => []
  | k + 1, n => UInt8.ofNat (n % 256) :: wordB k (n / 256)
theorem wordB_len (k n : Nat) : (wordB k n).length = k := by
  induction k generalizing n with
  | zero => rfl
  | succ k ih => simp [wordB, ih]
theorem wordB_snoc (k n : Nat) : wordB (k + 1) n = wordB k n ++ [UInt8.ofNat (n / 256 ^ k % 256)] := by
  induction k generalizing n with
  | zero => simp [wordB]
  | succ k ih =>
    rw [wordB, ih (n / 256), wordB, List.cons_append, Nat.div_div_eq_div_mul, ← Nat.pow_succ']

/-- The number that bytes begin with: it, how many bytes it has, the error's number. -/
def firstF : Nat → Nat → List UInt8 → Nat × Nat × Nat
  | _, _, [] => (0, 0, 5)
  | i, acc, x :: r =>
    if (i = 9 ∧ 1 < x.toNat) ∨ (0 < i ∧ x.toNat = 0) then (0, 0, 4)
    else if x.toNat < 128 then (acc + x.toNat % 128 * 2 ^ (7 * i), i + 1, 0)
    else firstF (i + 1) (acc + x.toNat % 128 * 2 ^ (7 * i)) r
def firstB (l : List UInt8) : Nat × Nat × Nat := firstF 0 0 l
theorem first_none (k acc : Nat) (l : List UInt8) (h : l.length ≤ k) : firstF k acc (l.drop k) = (0, 0, 5) := by
  rw [List.drop_eq_nil_of_le h]; rfl
theorem first_bad (k acc x : Nat) (l : List UInt8) (h : k < l.length) (hx : x = l[k].toNat) (hb : (k = 9 ∧ 1 < x) ∨ (0 < k ∧ x = 0)) : firstF k acc (l.drop k) = (0, 0, 4) := by
  rw [List.drop_eq_getElem_cons h, firstF, ← hx, if_pos hb]
theorem first_end (k acc x : Nat) (l : List UInt8) (h : k < l.length) (hx : x = l[k].toNat) (hb : ¬ ((k = 9 ∧ 1 < x) ∨ (0 < k ∧ x = 0))) (he : x < 128) : firstF k acc (l.drop k) = (acc + x % 128 * 2 ^ (7 * k), k + 1, 0) := by
  rw [List.drop_eq_getElem_cons h, firstF, ← hx, if_neg hb, if_pos he]
theorem first_next (k acc x : Nat) (l : List UInt8) (h : k < l.length) (hx : x = l[k].toNat) (hb : ¬ ((k = 9 ∧ 1 < x) ∨ (0 < k ∧ x = 0))) (he : ¬ x < 128) : firstF k acc (l.drop k) = firstF (k + 1) (acc + x % 128 * 2 ^ (7 * k)) (l.drop (k + 1)) := by
  rw [List.drop_eq_getElem_cons h, firstF, ← hx, if_neg hb, if_neg he]
theorem and127 : ∀ a : Fin 256, bits .and .u8 (a.val : Int) 127 = ((a.val % 128 : Nat) : Int) := by decide +kernel
/-- One byte's seven bits, put above what is there. -/
theorem step_or (k acc x : Nat) (hx : x < 256) (ha : acc < 2 ^ (7 * k)) (hk : k ≤ 9) (h9 : k = 9 → x ≤ 1) :
    bits .or .u64 (acc : Int) (IntKind.u64.wrap (IntKind.u64.wrap (bits .and .u8 (x : Int) 127) * 2 ^ (7 * k))) = ((acc + x % 128 * 2 ^ (7 * k) : Nat) : Int) ∧ acc + x % 128 * 2 ^ (7 * k) < 18446744073709551616 := by
  have h1 := and127 ⟨x, hx⟩
  simp only at h1
  have hm : x % 128 < 2 ^ 7 := Nat.mod_lt _ (by omega)
  have hp : x % 128 * 2 ^ (7 * k) + 2 ^ (7 * k) ≤ 18446744073709551616 := by
    by_cases hk9 : k = 9
    · have := h9 hk9
      subst hk9
      have e : x % 128 = x := Nat.mod_eq_of_lt (by omega)
      rw [e]; omega
    · have e : x % 128 * 2 ^ (7 * k) + 2 ^ (7 * k) = (x % 128 + 1) * 2 ^ (7 * k) := by rw [Nat.add_mul]; omega
      rw [e]
      have hq : (2 : Nat) ^ (7 * k) ≤ 2 ^ 56 := Nat.pow_le_pow_right (by omega) (by omega)
      have := Nat.mul_le_mul (show x % 128 + 1 ≤ 128 by omega) hq
      omega
  have h2 : IntKind.u64.wrap ((x % 128 : Nat) : Int) = ((x % 128 : Nat) : Int) := by rw [IntKind.wrap_u64]; omega
  have h3 : ((x % 128 : Nat) : Int) * 2 ^ (7 * k) = ((x % 128 * 2 ^ (7 * k) : Nat) : Int) := by push_cast; rfl
  have h4 : IntKind.u64.wrap ((x % 128 * 2 ^ (7 * k) : Nat) : Int) = ((x % 128 * 2 ^ (7 * k) : Nat) : Int) := by
    have : x % 128 * 2 ^ (7 * k) < 18446744073709551616 := by have : 0 < 2 ^ (7 * k) := Nat.pow_pos (by omega); omega
    rw [IntKind.wrap_u64]; omega
  refine ⟨?_, by omega⟩
  rw [h1, h2, h3, h4, u64_or_nat _ _ (by omega) (by omega), Nat.add_comm, Nat.mul_comm, Nat.or_comm, ← Nat.two_pow_add_eq_or_of_lt ha]

theorem step_lt (k acc x : Nat) (ha : acc < 2 ^ (7 * k)) : acc + x % 128 * 2 ^ (7 * k) < 2 ^ (7 * (k + 1)) := by
  have e : 7 * (k + 1) = 7 + 7 * k := by omega
  rw [e, Nat.pow_add]
  have h : (x % 128 + 1) * 2 ^ (7 * k) ≤ 128 * 2 ^ (7 * k) := Nat.mul_le_mul_right _ (by omega)
  rw [Nat.add_mul] at h
  have : (2 : Nat) ^ 7 = 128 := rfl
  rw [this]
  omega
theorem step_or9 (acc x : Nat) (hx : x ≤ 1) (ha : acc < 2 ^ (7 * 9)) :
    bits .or .u64 (acc : Int) (IntKind.u64.wrap (IntKind.u64.wrap (bits .and .u8 (x : Int) 127) * 9223372036854775808)) = (acc : Int) + (x : Int) % 128 * 9223372036854775808 := by
  have h := (step_or 9 acc x (by omega) ha (by omega) (fun _ => hx)).1
  rw [show (2 : Int) ^ (7 * 9) = 9223372036854775808 from by decide +kernel, show (2 : Nat) ^ (7 * 9) = 9223372036854775808 from by decide +kernel] at h
  rw [h]
  omega

theorem firstF_ok (r : List UInt8) : ∀ (i acc : Nat), i ≤ 9 → acc < 2 ^ (7 * i) → (firstF i acc r).2.2 = 0 → (firstF i acc r).2.1 ≤ i + r.length ∧ (firstF i acc r).1 < 18446744073709551616 := by
  induction r with
  | nil => intro i acc _ _ h; simp [firstF] at h
  | cons x r ih =>
    intro i acc hi ha h
    have hx : x.toNat < 256 := x.toNat_lt
    unfold firstF at h ⊢
    by_cases hb : (i = 9 ∧ 1 < x.toNat) ∨ (0 < i ∧ x.toNat = 0)
    · rw [if_pos hb] at h; simp at h
    · rw [if_neg hb] at h ⊢
      have hs := (step_or i acc x.toNat hx ha hi (by omega)).2
      by_cases he : x.toNat < 128
      · rw [if_pos he] at h ⊢
        simp only [List.length_cons]
        exact ⟨by omega, hs⟩
      · rw [if_neg he] at h ⊢
        have := ih (i + 1) _ (by omega) (step_lt i acc x.toNat ha) h
        simp only [List.length_cons]
        omega
theorem firstB_ok (l : List UInt8) (h : (firstB l).2.2 = 0) : (firstB l).2.1 ≤ l.length ∧ (firstB l).1 < 18446744073709551616 := by
  have := firstF_ok l 0 0 (by omega) (by simp) h
  unfold firstB
  omega
theorem firstF_err (r : List UInt8) : ∀ (i acc : Nat), (firstF i acc r).2.2 = 0 ∨ ((firstF i acc r).2.2 = 4 ∨ (firstF i acc r).2.2 = 5) ∧ (firstF i acc r).1 = 0 := by
  induction r with
  | nil => intro i acc; simp [firstF]
  | cons x r ih =>
    intro i acc
    unfold firstF
    split
    · simp
    · split
      · simp
      · exact ih _ _

/-- What a reader's Upto tells: the number, what is left, the error. -/
def uptoB (l : List UInt8) (e most : Nat) : Nat × List UInt8 × Nat :=
  if e ≠ 0 then (0, l, e) else if (firstB l).2.2 ≠ 0 then (0, l, (firstB l).2.2) else if most < (firstB l).1 then (0, l.drop (firstB l).2.1, 3) else ((firstB l).1, l.drop (firstB l).2.1, 0)
/-- What a reader's take tells: the bytes, what is left, the error. -/
def takeB (l : List UInt8) (skip n : Nat) : List UInt8 × List UInt8 × Nat :=
  if skip + n ≤ l.length then ((l.drop skip).take n, l.drop (skip + n), 0) else ([], l, 5)
def blockB (l : List UInt8) (e : Nat) : List UInt8 × List UInt8 × Nat :=
  if e ≠ 0 then ([], l, e) else if (firstB l).2.2 ≠ 0 then ([], l, (firstB l).2.2) else takeB l (firstB l).2.1 (firstB l).1
def fixedB (l : List UInt8) (e n : Nat) : List UInt8 × List UInt8 × Nat := if e ≠ 0 then ([], l, e) else takeB l 0 n
/-- A word's number. -/
def wordN : List UInt8 → Nat
  | [] => 0
  | x :: r => x.toNat + 256 * wordN r
def wordR (l : List UInt8) (e : Nat) (k : Int) : Nat × List UInt8 × Nat :=
  if e ≠ 0 then (0, l, e) else if k = 2 ∨ k = 4 ∨ k = 8 then (wordN (takeB l 0 k.toNat).1, (takeB l 0 k.toNat).2.1, (takeB l 0 k.toNat).2.2) else (0, l, 4)

theorem wordN_snoc (l : List UInt8) (x : UInt8) : wordN (l ++ [x]) = wordN l + x.toNat * 256 ^ l.length := by
  induction l with
  | nil => simp [wordN]
  | cons y l ih =>
    simp only [List.cons_append, wordN, ih, List.length_cons, Nat.pow_succ, Nat.mul_add]
    rw [← Nat.mul_assoc, Nat.mul_comm 256 x.toNat, Nat.mul_assoc, Nat.mul_comm 256 (256 ^ l.length)]
    omega
theorem wordN_lt (l : List UInt8) : wordN l < 256 ^ l.length := by
  induction l with
  | nil => simp [wordN]
  | cons y l ih =>
    have hy : y.toNat < 256 := y.toNat_lt
    simp only [wordN, List.length_cons, Nat.pow_succ]
    omega
/-- One byte more of a word, as the walk reckons it. -/
theorem word_step (m : List UInt8) (k : Nat) (hk : k < m.length) (h8 : m.length ≤ 8) :
    bits .or .u64 (wordN (m.take k) : Int) (IntKind.u64.wrap ((m[k].toNat : Int) * 2 ^ (8 * k))) = (wordN (m.take (k + 1)) : Int) := by
  have hx : m[k].toNat < 256 := m[k].toNat_lt
  have ha := wordN_lt (m.take k)
  have hl : (m.take k).length = k := by rw [List.length_take]; omega
  rw [hl] at ha
  have e1 : wordN (m.take (k + 1)) = wordN (m.take k) + m[k].toNat * 256 ^ k := by
    rw [List.take_succ_eq_append_getElem hk, wordN_snoc, hl]
  rw [e1]
  generalize m[k].toNat = x at *
  generalize wordN (m.take k) = a at *
  have e2 : (256 : Nat) ^ k = 2 ^ (8 * k) := by rw [show (256 : Nat) = 2 ^ 8 from rfl, ← Nat.pow_mul]
  rw [e2] at ha ⊢
  have hp : x * 2 ^ (8 * k) + 2 ^ (8 * k) ≤ 18446744073709551616 := by
    have e : x * 2 ^ (8 * k) + 2 ^ (8 * k) = (x + 1) * 2 ^ (8 * k) := by rw [Nat.add_mul]; omega
    rw [e]
    have hq : (2 : Nat) ^ (8 * k) ≤ 2 ^ 56 := Nat.pow_le_pow_right (by omega) (by omega)
    have := Nat.mul_le_mul (show x + 1 ≤ 256 by omega) hq
    omega
  have h3 : (x : Int) * 2 ^ (8 * k) = ((x * 2 ^ (8 * k) : Nat) : Int) := by push_cast; rfl
  have h4 : IntKind.u64.wrap ((x * 2 ^ (8 * k) : Nat) : Int) = ((x * 2 ^ (8 * k) : Nat) : Int) := by
    have : x * 2 ^ (8 * k) < 18446744073709551616 := by have : 0 < 2 ^ (8 * k) := Nat.pow_pos (by omega); omega
    rw [IntKind.wrap_u64]; omega
  rw [h3, h4, u64_or_nat _ _ (by omega) (by omega), Nat.add_comm, Nat.mul_comm, Nat.or_comm, ← Nat.two_pow_add_eq_or_of_lt ha]

/-- A word's bytes at whatever width. -/
def wordK (k : Int) (n : Nat) : List UInt8 := if k = 2 ∨ k = 4 ∨ k = 8 then wordB k.toNat n else []
theorem wordK_len (k : Int) (n : Nat) : (wordK k n).length ≤ 8 := by
  unfold wordK
  split
  · rw [wordB_len]; omega
  · simp

theorem wordB_add (a b n : Nat) : wordB (a + b) n = wordB a n ++ wordB b (n / 256 ^ a) := by
  induction a generalizing n with
  | zero => simp [wordB]
  | succ a ih =>
    rw [show a + 1 + b = (a + b) + 1 by omega, wordB, ih, wordB, List.cons_append, Nat.div_div_eq_div_mul, ← Nat.pow_succ']
theorem numF_mono (f : Nat) : ∀ n m : Nat, n ≤ m → (numF f n).length ≤ (numF f m).length := by
  induction f with
  | zero => intro n m _; simp [numF]
  | succ f ih =>
    intro n m h
    by_cases hn : n < 128
    · rw [numF_small _ _ hn]
      exact (numF_len (f + 1) m).1
    · rw [numF_step _ _ (by omega), numF_step _ _ (by omega), List.length_cons, List.length_cons]
      have := ih (n / 128) (m / 128) (Nat.div_le_div_right h)
      omega

end Go.Proofs.YtknagdbhhfelnaaDoor

/-
  Rows of values and of slices: what a slice holds (Rowz, Byts), that a call owns it (OwnR), append onto it. Conditions: a row is short.
-/
namespace Go.Proofs.YtknagdbhhfelnaaDoor
open Go.RowKit
set_option maxRecDepth 100000

theorem Byt.at {w : World} {A : Option Addr} {n c k : Nat} {l : List UInt8} (h : Byt w (.slice A n c) l) (hk : k < l.length) :
    ∃ b off, A = some ⟨b, off, none⟩ ∧ b < w.heap.size ∧ ∀ j (hj : j < l.length), w.cell? ⟨b, off + j, none⟩ = some (.int .u8 (l[j].toNat : Int)) := by
  obtain ⟨A', c', hv, h1, h2, h3⟩ := h
  injection hv with e1 e2 e3
  subst e1
  rcases h3 with h3 | h3
  · subst h3; simp at hk
  · exact h3

/-- The slice value v holds these values, a cell each. -/
def Rowz (w : World) (v : Value) (vs : List Value) : Prop :=
  ∃ (A : Option Addr) (c : Nat), v = .slice A vs.length c ∧ vs.length ≤ c ∧ c ≤ maxLen ∧
    (vs = [] ∨ ∃ b off, A = some ⟨b, off, none⟩ ∧ b < w.heap.size ∧ ∀ j (hj : j < vs.length), w.cell? ⟨b, off + j, none⟩ = some vs[j])
theorem Rowz.nil (w : World) : Rowz w (.slice none 0 0) [] := ⟨none, 0, rfl, by simp, by simp [maxLen], .inl rfl⟩
theorem Rowz.below {w w' : World} {v : Value} {vs : List Value} (h : Rowz w v vs) (hb : Below w.heap.size w w') : Rowz w' v vs := by
  obtain ⟨A, c, rfl, h1, h2, h3⟩ := h
  refine ⟨A, c, rfl, h1, h2, ?_⟩
  rcases h3 with h3 | ⟨b, off, rfl, hlt, hc⟩
  · exact .inl h3
  · exact .inr ⟨b, off, rfl, Nat.lt_of_lt_of_le hlt hb.size, fun j hj => by rw [← hc j hj]; exact hb.cell (p := ⟨b, off + j, none⟩) hlt⟩
theorem Rowz.form {w : World} {v : Value} {vs : List Value} (h : Rowz w v vs) : ∃ A n c, v = .slice A n c ∧ Hid (n = vs.length) ∧ n ≤ c ∧ c ≤ 9223372036854775807 := by
  obtain ⟨A, c, rfl, h1, h2, _⟩ := h
  unfold maxLen at h2
  exact ⟨A, _, c, rfl, rfl, h1, by omega⟩
theorem Rowz.at {w : World} {A : Option Addr} {n c k : Nat} {vs : List Value} (h : Rowz w (.slice A n c) vs) (hk : k < vs.length) :
    ∃ b off, A = some ⟨b, off, none⟩ ∧ b < w.heap.size ∧ ∀ j (hj : j < vs.length), w.cell? ⟨b, off + j, none⟩ = some vs[j] := by
  obtain ⟨A', c', hv, h1, h2, h3⟩ := h
  injection hv with e1 e2 e3
  subst e1
  rcases h3 with h3 | h3
  · subst h3; simp at hk
  · exact h3

/-- The values are slices of these bytes. -/
def Byts (w : World) (vs : List Value) (ls : List (List UInt8)) : Prop := vs.length = ls.length ∧ ∀ j (hj : j < vs.length) (hj' : j < ls.length), Byt w vs[j] ls[j]
theorem Byts.below {w w' : World} {vs : List Value} {ls : List (List UInt8)} (h : Byts w vs ls) (hb : Below w.heap.size w w') : Byts w' vs ls := ⟨h.1, fun j hj hj' => (h.2 j hj hj').below hb⟩
theorem Byts.nil (w : World) : Byts w [] [] := ⟨rfl, fun j hj => by simp at hj⟩
theorem Byts.snoc {w : World} {vs : List Value} {ls : List (List UInt8)} (h : Byts w vs ls) {v : Value} {l : List UInt8} (hv : Byt w v l) : Byts w (vs ++ [v]) (ls ++ [l]) := by
  refine ⟨by simp [h.1], fun j hj hj' => ?_⟩
  by_cases hlt : j < vs.length
  · rw [List.getElem_append_left hlt, List.getElem_append_left (by have := h.1; omega)]
    exact h.2 j hlt _
  · have e : j = vs.length := by simp at hj; omega
    subst e
    have h1 := h.1
    simp [h1]
    exact hv

/-- The slice value v holds these slices in a row of the call's own, from block B on. -/
def OwnR (w : World) (B : Nat) (v : Value) (vs : List Value) : Prop := w.ownsRow B 27 1 v vs.length vs
theorem OwnR.nil (w : World) (B : Nat) : OwnR w B (.slice none 0 0) [] := World.ownsRow_nil w B _ 1
theorem OwnR.rowz {w : World} {B : Nat} {v : Value} {vs : List Value} (h : OwnR w B v vs) : Rowz w v vs := by
  rcases h.2 with ⟨rfl, h0⟩ | ⟨g, cap, cur, rfl, hb, hg, h1, h2, h3, h4⟩
  · obtain rfl : vs = [] := List.eq_nil_of_length_eq_zero h0
    exact Rowz.nil w
  · refine ⟨_, cap, rfl, h1, h2, .inr ⟨g, 0, rfl, (Array.getElem?_eq_some_iff.1 hg).1, fun j hj => ?_⟩⟩
    have := World.ownsRow.cells h (g := g) rfl j vs[j] (List.getElem?_eq_getElem hj)
    rw [plainAdd] at this
    exact this
theorem OwnR.keep {w w' : World} {B : Nat} {v : Value} {vs : List Value} (h : OwnR w B v vs) (hb : Below w.heap.size w w') : OwnR w' B v vs := by
  refine World.ownsRow.kept (row := none) h ⟨hb.os, hb.tape, hb.output, hb.size, fun k hk _ => hb.block k hk⟩ ?_
  cases v.ownBlock <;> simp
theorem sinfo : (Tryd.prog.info? 27).map (fun i => (i.zero, i.size, i.bytes)) = some (some (.slice none 0 0), 1, 24) := by kernel_rfl

section
variable {ops : Array Oper} {rest : List Oper} {o : Oper} {a : Act} {w : World} {Q : Exit → Act → World → Prop}
/-- 'append(vs, x)', x in a row that was just laid. -/
theorem wpList_appR (hgd : o.guard = none) (s x : Operand) (ho : o.op = .call { callee := .builtin .append, args := #[s, x], argTypes := #[22, 22] })
    (B : Nat) (v : Value) (vs : List Value) (hs : a.eval s = v) (hown : OwnR w B v vs) (u : Value) (hx : a.eval x = .slice (some ⟨w.heap.size, 0, none⟩) 1 1) (hu : u.oneCell' = true) (hlen : vs.length ≤ 1000) (hbase : B ≤ w.heap.size)
    (h : ∀ v' w', OwnR w' B v' (vs ++ [u]) → (∀ b0, Below B b0 w → Below B b0 w') → w.heap.size ≤ w'.heap.size → wpList Tryd.prog ops Q rest (a.put o.dst v') w') : wpList Tryd.prog ops Q (o :: rest) a (w.alloc (.cells #[u] 27)) := by
  obtain ⟨i0, hi0, hz0, hz1, hz2⟩ := info_parts sinfo
  have hown' : OwnR (w.alloc (.cells #[u] 27)) B v vs := World.ownsRow.alloc hown _
  obtain ⟨v', w', hrun, g2, g3, _, g5⟩ := run_append_own_at (P := Tryd.prog) (w.alloc (.cells #[u] 27)) B 22 o.type 27 i0 (.slice none 0 0) 1 24 Tryd.underlying22 hi0 hz0 hz1 hz2 rfl (by omega) v vs.length vs hown'
    ⟨w.heap.size, 0, none⟩ 1 1 [u] rfl (fun j y hy => by
      have hj : j = 0 := by
        have := (List.getElem?_eq_some_iff.1 hy).1
        simpa using this
      subst hj
      rw [plainAdd, cell_of_row _ _ _ _ _ _ (heap_alloc_new w _)]
      simpa using hy) (by simpa using hu) (by simp only [maxLen]; omega) (by omega) (by simp only [World.size_alloc]; omega)
  refine wpList_plain hgd fun K hK => ?_
  unfold Oper.wp execOp
  simp only [ho, resolve, invoke, builtin, Sem.run_bind, Sem.run_pure, Result.andThen_ok, List.map_toArray, List.map_cons, List.map_nil, hs, hx, hrun]
  refine hK _ _ (h v' w' ?_ ?_ ?_)
  · unfold OwnR
    rw [List.length_append]
    exact g2
  · intro b0 hb0
    exact below_own (hb0.alloc hbase _) (by simp only [World.size_alloc]; omega) hown' g3
  · have := g3.size
    simp only [World.size_alloc] at this
    omega
end

theorem heap_cell_other {w : World} {g k i : Nat} {v : Value} (h : i ≠ g) : (w.setCell ⟨g, k, none⟩ v).heap[i]? = w.heap[i]? := Below.heap_setCell _ _ _ _ h
theorem setCell_size (w : World) (a : Addr) (v : Value) : (w.setCell a v).heap.size = w.heap.size := by simp [World.setCell]
section
open Go.Maps
def zsB (n : Nat) : List UInt8 := List.replicate n 0
theorem zsB_len (n : Nat) : (zsB n).length = n := by simp [zsB]
theorem made_zeros (n : Nat) : (madeCells (Value.cells (.int .u8 0)) (n * 1)).toList = byc (zsB n) := by
  rw [show (Value.cells (.int .u8 0)) = #[.int .u8 0] from rfl, toList_madeCells_one, Nat.mul_one]
  simp [byc, zsB]
theorem own_zeros {w : World} {B g n : Nat} (h : w.ownsRow B 5 1 (.slice (some ⟨g, 0, none⟩) n n) n (madeCells (Value.cells (.int .u8 0)) (n * 1)).toList) : Own w B 5 (.slice (some ⟨g, 0, none⟩) n n) (zsB n) := by
  rw [made_zeros] at h
  unfold Own
  rw [zsB_len]
  exact h
end
end Go.Proofs.YtknagdbhhfelnaaDoor

/-
  Package octet's small functions by their contracts: behind, isWidth. Conditions: the bytes together are fewer than 2^46.
-/
namespace Go.Proofs.YtknagdbhhfelnaaDoor
open Go.RowKit
set_option maxRecDepth 100000

set_option maxHeartbeats 400000 in
theorem behind_any (w : World) (x y : Value) (l m : List UInt8) (hx : Byt w x l) (hy : Byt w y m) (hlen : l.length + m.length ≤ 70368744177664) :
    Calls Tryd.prog 61 #[x, y] w (Made w (l ++ m)) := by
  obtain ⟨i0, hi0, hz0, hz1, hz2⟩ := info_parts uinfo
  have hx' := hx
  have hy' := hy
  obtain ⟨A, c, rfl, h1, h2, h3⟩ := hx'
  obtain ⟨A', c', rfl, h1', h2', h3'⟩ := hy'
  have HX := Lib.hid hx
  have HY := Lib.hid hy
  clear h3 h3' hx hy
  unfold maxLen at h2 h2'
  go_enter Tryd.func61, Tryd.ntmps61
  go_wp2_with (first
    | (at_make; refine wpList_make_own _ rfl _ _ 27 rfl w.heap.size 5 i0 _ 1 Tryd.underlying27 hi0 hz0 hz1 _ _ _ (l.length + m.length) rfl rfl (by omega) (by rw [hz2]; omega) (by simp only [maxLen]; omega) (Nat.le_refl _) ?_; intro w1 hown1 hg1)
    | (at_builtin; refine wpList_app _ rfl (.tmp 10) (.tmp 11) _ rfl w.heap.size 5 i0 _ Tryd.underlying27 hi0 hz0 hz1 hz2 rfl _ [] rfl hown1 (.slice A l.length c) l rfl (HX.out.below (below_none hg1)) (by simp; omega) hg1.size ?_; intro v2 w2 hown2 hg2 hat2; have hb2 : Below w.heap.size w w2 := below_own (below_none hg1) hg1.size hown1 hg2)
    | (at_builtin; refine wpList_app _ rfl (.tmp 12) (.tmp 13) _ rfl w.heap.size 5 i0 _ Tryd.underlying27 hi0 hz0 hz1 hz2 rfl _ l rfl hown2 (.slice A' m.length c') m rfl (HY.out.below hb2) (by omega) hb2.size ?_; intro v3 w3 hown3 hg3 hat3))
  go_ret
  exact made_mk hown3 (below_own hb2 hb2.size hown2 hg3)

theorem behind_one (w : World) (x : Value) (l : List UInt8) (hx : Byt w x l) (hlen : l.length ≤ 70368744177664) :
    Calls Tryd.prog 61 #[x, .slice none 0 0] w (Made w l) := by
  have h := behind_any w x (.slice none 0 0) l [] hx (Byt.nil w) (by simpa using hlen)
  rw [List.append_nil] at h
  exact h

theorem isWidth_any (n : Int) (w : World) : Calls Tryd.prog 60 #[.int .i64 n] w fun e w' => e = .returned (.bool (n == 2 || n == 4 || n == 8)) ∧ w = w' := by
  by_cases h2 : n = 2
  · subst h2
    go_enter Tryd.func60, Tryd.ntmps60
    go_wp2
    go_ret
    exact ⟨rfl, rfl⟩
  have h2' : (n == 2) = false := by simpa using h2
  by_cases h4 : n = 4
  · subst h4
    go_enter Tryd.func60, Tryd.ntmps60
    go_wp2
    go_ret
    exact ⟨rfl, rfl⟩
  have h4' : (n == 4) = false := by simpa using h4
  clear h2 h4
  go_enter Tryd.func60, Tryd.ntmps60
  go_wp2
  go_ret
  exact ⟨by simp [h2', h4'], rfl⟩
end Go.Proofs.YtknagdbhhfelnaaDoor

/-
  octet.Number, octet.Word and octet.Block by their contracts: b's bytes, and the number, the word, the block behind them. Conditions: the bytes together are fewer than 2^45.
-/
namespace Go.Proofs.YtknagdbhhfelnaaDoor
open Go.RowKit
set_option maxRecDepth 100000

def NumRel (w : World) (n : Nat) (i v : Value) (wr : World) : Prop :=
  ∃ (k m : Nat) (pre : List UInt8), k ≤ 9 ∧ m < 2 ^ (64 - 7 * k) ∧ i = .int .u64 m ∧ pre.length = k ∧ pre ++ numF (9 - k) m = numB n ∧ Own wr w.heap.size 5 v pre ∧ Below w.heap.size w wr

def WordRel (w : World) (n k : Nat) (v i : Value) (wr : World) : Prop :=
  ∃ j : Nat, j ≤ k ∧ i = .int .i64 ((8 * j : Nat) : Int) ∧ Own wr w.heap.size 5 v (wordB j n) ∧ Below w.heap.size w wr

set_option maxRecDepth 100000 in
set_option maxHeartbeats 1000000 in
theorem word_is (w : World) (x : Value) (l : List UInt8) (n k : Nat) (hx : Byt w x l) (hn : n < 18446744073709551616) (hk : k = 2 ∨ k = 4 ∨ k = 8) (hlen : l.length ≤ 35184372088832) :
    Calls Tryd.prog 45 #[x, .int .u64 n, .int .i64 (k : Int)] w (Made w (l ++ wordB k n)) := by
  obtain ⟨i0, hi0, hz0, hz1, hz2⟩ := info_parts uinfo
  have HX := Lib.hid hx
  have HN := Lib.hid hn
  have hw : ((k : Int) == 2 || (k : Int) == 4 || (k : Int) == 8) = true := by rcases hk with rfl | rfl | rfl <;> rfl
  have HW := Lib.hid hw
  have hk8 : k ≤ 8 := by omega
  clear hx hn hk hw
  go_enter Tryd.func45, Tryd.ntmps45
  go_wp2_with (first
    | (go_at_call 60; refine (isWidth_any _ _).mono ?_; rintro e w1 ⟨rfl, rfl⟩; rw [HW.out])
    | (at_make; refine wpList_make_own _ rfl _ _ 27 rfl w.heap.size 5 i0 _ 1 Tryd.underlying27 hi0 hz0 hz1 _ _ _ k rfl rfl (by omega) (by rw [hz2]; omega) (by simp only [maxLen]; omega) (Nat.le_refl _) ?_; intro w1 hown1 hg1))
  go_loopw [7, 8] (fun v i wr => WordRel w n k v i wr) (fun _ i _ => 8 * k - (intOf i).toNat)
  case atStart => exact ⟨0, by omega, rfl, hown1, below_none hg1⟩
  case round =>
    obtain ⟨j, hj, rfl, hown, hbel⟩ := hrel
    have hwl : (wordB j n).length ≤ 8 := by rw [wordB_len]; omega
    by_cases hlt : j < k
    · have HO := Lib.hid (byte_shift n j)
      have HS := Lib.hid (wordB_snoc j n)
      obtain ⟨b, hb⟩ : ∃ b, b = UInt8.ofNat (n / 256 ^ j % 256) := ⟨_, rfl⟩
      rw [← hb] at HO HS
      clear hb
      go_wp2_with (at_builtin; refine wpList_app _ rfl (.tmp 22) (.tmp 27) _ rfl w.heap.size 5 i0 _ Tryd.underlying27 hi0 hz0 hz1 hz2 rfl _ _ rfl (World.ownsRow.alloc hown _) (.slice (some ⟨wr.heap.size, 0, none⟩) 1 1) [b] rfl (Byt.lit1 _ _ _ _ _ HO.out) (by simp; omega) (by have := hbel.size; simp; omega) ?_; intro v1 w1 hown1 hg1 hat1; have hb1 := below_own (hbel.alloc hbel.size _) (by have := hbel.size; simp; omega) (World.ownsRow.alloc hown _) hg1)
      go_roundw
      case rel => exact ⟨j + 1, by omega, by go_num, by rw [HS.out]; exact hown1, hb1⟩
      case measure => simp [intOf]; omega
    · obtain rfl : j = k := by omega
      go_wp2_with (go_at_call 61; refine (behind_any _ _ _ l (wordB j n) (HX.out.below hbel) hown.byt (by omega)).mono ?_; rintro e w2 ⟨v2, rfl, hown2, hb2⟩)
      go_ret
      exact made_mk (Own.lower hown2 hbel.size) (hbel.trans (hb2.mono hbel.size))

theorem word_not (w : World) (x : Value) (l : List UInt8) (n : Nat) (k : Int) (hx : Byt w x l) (hk : k ≠ 2 ∧ k ≠ 4 ∧ k ≠ 8) (hlen : l.length ≤ 35184372088832) :
    Calls Tryd.prog 45 #[x, .int .u64 n, .int .i64 k] w (Made w l) := by
  have HX := Lib.hid hx
  have hw : (k == 2 || k == 4 || k == 8) = false := by simp; omega
  have HW := Lib.hid hw
  clear hx hk hw
  go_enter Tryd.func45, Tryd.ntmps45
  go_wp2_with (first
    | (go_at_call 60; refine (isWidth_any _ _).mono ?_; rintro e w1 ⟨rfl, rfl⟩; rw [HW.out])
    | (go_at_call 61; refine (behind_one _ _ l HX.out (by omega)).mono ?_; rintro e w2 ⟨v2, rfl, hown2, hb2⟩))
  go_ret
  exact made_mk hown2 hb2

theorem word_any (w : World) (x : Value) (l : List UInt8) (n : Nat) (k : Int) (hx : Byt w x l) (hn : n < 18446744073709551616) (hlen : l.length ≤ 35184372088832) :
    Calls Tryd.prog 45 #[x, .int .u64 n, .int .i64 k] w (Made w (l ++ wordK k n)) := by
  unfold wordK
  by_cases h : k = 2 ∨ k = 4 ∨ k = 8
  · rw [if_pos h]
    obtain ⟨j, rfl⟩ := Int.eq_ofNat_of_zero_le (show 0 ≤ k by omega)
    exact word_is w x l n j hx hn (by omega) hlen
  · rw [if_neg h, List.append_nil]
    exact word_not w x l n k hx (by omega) hlen

end Go.Proofs.YtknagdbhhfelnaaDoor

/-
  octet.first by its contract. Conditions: none but that the bytes lie there.
-/
namespace Go.Proofs.YtknagdbhhfelnaaDoor
open Go.RowKit
set_option maxRecDepth 100000

def FirRel (l : List UInt8) (n i : Value) : Prop :=
  ∃ k acc : Nat, k ≤ l.length ∧ k ≤ 9 ∧ i = .int .i64 k ∧ n = .int .u64 acc ∧ acc < 2 ^ (7 * k) ∧ firstF k acc (l.drop k) = firstB l

end Go.Proofs.YtknagdbhhfelnaaDoor

/-
  Readers as objects in memory, and New, Err, Left, End of them by their contracts. Conditions: none but that the reader lies there.
-/
namespace Go.Proofs.YtknagdbhhfelnaaDoor
open Go.RowKit
set_option maxRecDepth 100000

/-- Block g is a reader with the bytes l ahead of it and the error e. -/
def Rdr (w : World) (g : Nat) (l : List UInt8) (e : Nat) : Prop :=
  ∃ A c, w.heap[g]? = some (.cells #[.bool true, .slice A l.length c, .int .i64 (e : Int)] 129 (0, 0)) ∧ Byt w (.slice A l.length c) l

theorem Rdr.lt {w : World} {g e : Nat} {l : List UInt8} (h : Rdr w g l e) : g < w.heap.size := by
  obtain ⟨A, c, h1, _⟩ := h
  rcases Nat.lt_or_ge g w.heap.size with hlt | hge
  · exact hlt
  · rw [Array.getElem?_eq_none hge] at h1; cases h1

theorem Rdr.notByte {w : World} {g e : Nat} {l : List UInt8} (h : Rdr w g l e) : ¬ ∃ off u, w.cell? ⟨g, off, none⟩ = some (.int .u8 u) := by
  obtain ⟨A, c, h1, _⟩ := h
  rintro ⟨off, u, hc⟩
  rw [cell_of_row _ _ _ _ _ _ h1] at hc
  match off, hc with
  | 0, hc => simp at hc
  | 1, hc => simp at hc
  | 2, hc => simp at hc
  | n + 3, hc => simp at hc

/-- Bytes stay as they were while a reader alone is written. -/
theorem Byt.reader {w w' : World} {v : Value} {l m : List UInt8} {g e : Nat} (h : Byt w v l) (hr : Rdr w g m e) (hg : w.grownBy w' (some g)) : Byt w' v l :=
  h.keep hg.size fun b hlt hex => hg.block b hlt (by rintro ⟨rfl⟩; exact hr.notByte hex)

theorem Rdr.below {w w' : World} {g e : Nat} {l : List UInt8} (h : Rdr w g l e) (hb : Below w.heap.size w w') : Rdr w' g l e := by
  have hlt := h.lt
  obtain ⟨A, c, h1, h2⟩ := h
  exact ⟨A, c, (hb.block g hlt).trans h1, h2.below hb⟩
theorem Rdr.other {w w' : World} {g g' e e' : Nat} {l l' : List UInt8} (h : Rdr w g l e) (h' : Rdr w g' l' e') (hne : g ≠ g') (hg : w.grownBy w' (some g')) : Rdr w' g l e := by
  have hlt := h.lt
  obtain ⟨A, c, h1, h2⟩ := h
  exact ⟨A, c, (hg.block g hlt (by rintro ⟨rfl⟩; exact hne rfl)).trans h1, h2.reader h' hg⟩

theorem grown_trans {a b c : World} {r : Option Nat} (h : a.grownBy b r) (k : b.grownBy c r) : a.grownBy c r :=
  ⟨k.os.trans h.os, k.tape.trans h.tape, k.output.trans h.output, Nat.le_trans h.size k.size, fun i hi hr => (k.block i (Nat.lt_of_lt_of_le hi h.size) hr).trans (h.block i hi hr)⟩
theorem grown_below {a b : World} {r : Option Nat} (h : Below a.heap.size a b) : a.grownBy b r := ⟨h.os, h.tape, h.output, h.size, fun i hi _ => h.block i hi⟩
theorem grown_refl (a : World) (r : Option Nat) : a.grownBy a r := ⟨rfl, rfl, rfl, Nat.le_refl _, fun _ _ _ => rfl⟩
theorem grown_set (a : World) (g i : Nat) (u : Value) : a.grownBy (a.setCell ⟨g, i, none⟩ u) (some g) :=
  ⟨rfl, rfl, rfl, by simp [World.setCell], fun k _ hk => Below.heap_setCell _ _ _ _ (by rintro rfl; exact hk rfl)⟩

/-- The reader's rest, or its error, set anew. -/
theorem Rdr.setErr {w : World} {g e : Nat} {l : List UInt8} (h : Rdr w g l e) (x : Nat) : Rdr (w.setCell ⟨g, 2, none⟩ (.int .i64 (x : Int))) g l x := by
  have h0 := h
  obtain ⟨A, c, h1, h2⟩ := h
  refine ⟨A, c, ?_, h2.reader h0 (grown_set w g 2 _)⟩
  simp [World.setCell, Array.getElem?_modify, h1]
theorem Rdr.setRest {w : World} {g e : Nat} {l m : List UInt8} {A : Option Addr} {c : Nat} (h : Rdr w g l e) (hm : Byt w (.slice A m.length c) m) : Rdr (w.setCell ⟨g, 1, none⟩ (.slice A m.length c)) g m e := by
  have h0 := h
  obtain ⟨A', c', h1, h2⟩ := h
  refine ⟨A, c, ?_, hm.reader h0 (grown_set w g 1 _)⟩
  simp [World.setCell, Array.getElem?_modify, h1]

/-- What the walk asks of a reader's cells. -/
theorem Rdr.cells {w : World} {g e : Nat} {l : List UInt8} (h : Rdr w g l e) :
    ∃ A c, w.cell? ⟨g, 0, none⟩ = some (.bool true) ∧ w.cell? ⟨g, 1, none⟩ = some (.slice A l.length c) ∧ w.cell? ⟨g, 2, none⟩ = some (.int .i64 (e : Int)) ∧
      w.frozen? ⟨g, 1, none⟩ = false ∧ w.frozen? ⟨g, 2, none⟩ = false ∧ Byt w (.slice A l.length c) l ∧ l.length ≤ c ∧ c ≤ 9223372036854775807 := by
  obtain ⟨A, c, h1, h2⟩ := h
  have h3 := h2
  obtain ⟨A', c', hv, h4, h5, _⟩ := h3
  injection hv with e1 e2 e3
  subst e1 e3
  unfold maxLen at h5
  exact ⟨A, c, by rw [cell_of_row _ _ _ _ _ _ h1]; rfl, by rw [cell_of_row _ _ _ _ _ _ h1]; rfl, by rw [cell_of_row _ _ _ _ _ _ h1]; rfl, by simp [World.frozen?, h1], by simp [World.frozen?, h1], h2, h4, by omega⟩

set_option maxHeartbeats 400000 in
theorem new_any (w : World) (v : Value) (l : List UInt8) (hv : Byt w v l) (hlen : l.length ≤ 70368744177664) :
    Calls Tryd.prog 65 #[v] w fun e w' => ∃ g, e = .returned (.pointer (some ⟨g, 0, none⟩)) ∧ w.heap.size ≤ g ∧ Rdr w' g l 0 ∧ Below w.heap.size w w' := by
  have HV := Lib.hid hv
  clear hv
  go_enter Tryd.func65, Tryd.ntmps65
  go_wp2_with (go_at_call 61; refine (behind_one _ _ l HV.out (by omega)).mono ?_; rintro e w1 ⟨v1, rfl, hown1, hb1⟩; obtain ⟨A1, n1, c1, rfl, HN1, _, _⟩ := hown1.byt.form)
  go_ret
  have hn := HN1.out
  subst hn
  exact ⟨w1.heap.size, rfl, hb1.size, ⟨A1, c1, heap_alloc_new w1 _, hown1.byt.alloc _⟩, hb1.alloc hb1.size _⟩

theorem err_is (w : World) (g e : Nat) (l : List UInt8) (hr : Rdr w g l e) :
    Calls Tryd.prog 78 #[.pointer (some ⟨g, 0, none⟩)] w fun x w' => x = .returned (.int .i64 (e : Int)) ∧ w = w' := by
  obtain ⟨A, c, h0, h1, h2, _, _, _, _, _⟩ := hr.cells
  clear hr
  go_enter Tryd.func78, Tryd.ntmps78
  go_wp2
  go_ret
  exact ⟨rfl, rfl⟩
theorem err_nil (w : World) :
    Calls Tryd.prog 78 #[.pointer none] w fun x w' => x = .returned (.int .i64 1) ∧ w = w' := by
  go_enter Tryd.func78, Tryd.ntmps78
  go_wp2
  go_ret
  exact ⟨rfl, rfl⟩
theorem left_is (w : World) (g e : Nat) (l : List UInt8) (hr : Rdr w g l e) :
    Calls Tryd.prog 70 #[.pointer (some ⟨g, 0, none⟩)] w fun x w' => x = .returned (.int .i64 (l.length : Int)) ∧ w = w' := by
  obtain ⟨A, c, h0, h1, h2, _, _, _, _, _⟩ := hr.cells
  clear hr
  go_enter Tryd.func70, Tryd.ntmps70
  go_wp2
  go_ret
  exact ⟨rfl, rfl⟩

/-- What a call of a reader that answers a number leaves. -/
def Told (w : World) (g : Nat) (k : IntKind) (n : Nat) (l : List UInt8) (e : Nat) (x : Ending) (w' : World) : Prop :=
  x = .returned (.int k (n : Int)) ∧ Rdr w' g l e ∧ w.grownBy w' (some g)

end Go.Proofs.YtknagdbhhfelnaaDoor

/-
  A reader's take by its contract. Conditions: skip is at most the bytes that are left.
-/
namespace Go.Proofs.YtknagdbhhfelnaaDoor
open Go.RowKit
set_option maxRecDepth 100000

/-- What a call of a reader that answers bytes leaves. -/
def Took (w : World) (g : Nat) (m l : List UInt8) (e : Nat) (x : Ending) (w' : World) : Prop :=
  ∃ v, x = .returned v ∧ Byt w' v m ∧ Rdr w' g l e ∧ w.grownBy w' (some g)

set_option maxRecDepth 100000 in
set_option maxHeartbeats 1000000 in
theorem take_more (w : World) (g e : Nat) (l : List UInt8) (skip n : Nat) (hr : Rdr w g l e) (hs : skip ≤ l.length) (hn : l.length - skip < n) (hn64 : n < 18446744073709551616) :
    Calls Tryd.prog 79 #[.pointer (some ⟨g, 0, none⟩), .int .i64 (skip : Int), .int .u64 (n : Int)] w (Took w g [] l 5) := by
  obtain ⟨A, c, h0, h1, h2, hf1, hf2, hby, hlc, hcm⟩ := hr.cells
  have HR := Lib.hid hr
  have HB := Lib.hid hby
  have H64 := Lib.hid hn64
  clear hr hby hn64
  have hn' : ((l.length : Int) - (skip : Int)) < (n : Int) := by omega
  go_enter Tryd.func79, Tryd.ntmps79
  go_wp2
  all_goals
    go_ret
    exact ⟨_, rfl, Byt.nil _, HR.out.setErr 5, grown_set _ _ _ _⟩

set_option maxRecDepth 100000 in
set_option maxHeartbeats 1000000 in
theorem take_ok (w : World) (g e : Nat) (l : List UInt8) (skip n : Nat) (hr : Rdr w g l e) (hs : skip + n ≤ l.length) (hlen : l.length ≤ 70368744177664) :
    Calls Tryd.prog 79 #[.pointer (some ⟨g, 0, none⟩), .int .i64 (skip : Int), .int .u64 (n : Int)] w (Took w g ((l.drop skip).take n) (l.drop (skip + n)) e) := by
  obtain ⟨A, c, h0, h1, h2, hf1, hf2, hby, hlc, hcm⟩ := hr.cells
  have HR := Lib.hid hr
  obtain ⟨A1, n1, c1, r1, b1, N1, l1, m1⟩ := hby.cutrun 27 elemByte sizeByte skip (by omega) .i64
  have hn1 : n ≤ n1 := by have := N1.out; omega
  obtain ⟨A2, n2, c2, r2, b2, N2, l2, m2⟩ := b1.cutrun 27 elemByte sizeByte n hn1 .u64
  obtain ⟨A3, n3, c3, r3, b3, N3, l3, m3⟩ := b1.uptorun 27 elemByte sizeByte n hn1 .u64
  have HR2 : Hid (Rdr (w.setCell ⟨g, 1, none⟩ (.slice A2 n2 c2)) g (l.drop (skip + n)) e) := by
    have e2 : n2 = (l.drop (skip + n)).length := by have := N1.out; have := N2.out; rw [List.length_drop]; omega
    rw [List.drop_drop] at b2
    rw [e2] at b2 ⊢
    exact HR.out.setRest b2
  have HB3 : Hid (Byt (w.setCell ⟨g, 1, none⟩ (.slice A2 n2 c2)) (.slice A3 n3 c3) ((l.drop skip).take n)) := b3.reader HR.out (grown_set _ _ _ _)
  have hl3 : ((l.drop skip).take n).length ≤ 70368744177664 := by rw [List.length_take]; omega
  clear hr hby b1 b2 b3
  have hn1' : ¬ (n1 : Int) < (n : Int) := by omega
  go_enter Tryd.func79, Tryd.ntmps79
  go_wp2_with fail
  refine (behind_one _ _ ((l.drop skip).take n) HB3.out hl3).mono ?_
  rintro x w1 ⟨v1, rfl, hown1, hb1⟩
  go_wp2_with fail
  go_ret
  exact ⟨_, rfl, hown1.byt, HR2.out.below hb1, grown_trans (grown_set _ _ _ _) (grown_below hb1)⟩
end Go.Proofs.YtknagdbhhfelnaaDoor

/-
  A reader's Upto, Number, Block and Fixed by their contracts. Conditions: the bytes are fewer than 2^46.
-/
namespace Go.Proofs.YtknagdbhhfelnaaDoor
open Go.RowKit
set_option maxRecDepth 100000

theorem take_any (w : World) (g : Nat) (l : List UInt8) (skip n : Nat) (hr : Rdr w g l 0) (hs : skip ≤ l.length) (hn64 : n < 18446744073709551616) (hlen : l.length ≤ 70368744177664) :
    Calls Tryd.prog 79 #[.pointer (some ⟨g, 0, none⟩), .int .i64 (skip : Int), .int .u64 (n : Int)] w (Took w g (takeB l skip n).1 (takeB l skip n).2.1 (takeB l skip n).2.2) := by
  unfold takeB
  split
  · exact take_ok w g 0 l skip n hr (by omega) hlen
  · exact take_more w g 0 l skip n hr hs (by omega) hn64

set_option maxRecDepth 100000 in
set_option maxHeartbeats 1000000 in
theorem fixed_is (w : World) (g e : Nat) (l : List UInt8) (n : Int) (hr : Rdr w g l e) (hlen : l.length ≤ 70368744177664) (hn : n ≤ 9223372036854775807) :
    Calls Tryd.prog 68 #[.pointer (some ⟨g, 0, none⟩), .int .i64 n] w (Took w g (fixedB l e n.toNat).1 (fixedB l e n.toNat).2.1 (fixedB l e n.toNat).2.2) := by
  have HR := Lib.hid hr
  clear hr
  unfold fixedB
  by_cases he : e = 0
  · subst he
    rw [if_neg (by omega)]
    have H := Lib.hid (take_any w g l 0 n.toNat HR.out (by omega) (by omega) hlen)
    by_cases hn0 : n < 0
    · have hn0' : ¬ 0 ≤ n := by omega
      rw [show n.toNat = 0 by omega] at H ⊢
      generalize takeB l 0 0 = u at *
      go_enter Tryd.func68, Tryd.ntmps68
      go_wp2_with fail
      refine (err_is _ g 0 l HR.out).mono ?_
      rintro x w1 ⟨rfl, rfl⟩
      go_wp2_with fail
      first | rw [show max n 0 = 0 from by omega] | skip
      refine (H.out).mono ?_
      rintro x w1 ⟨v1, rfl, hb1, hr1, hg1⟩
      go_wp2_with fail
      go_ret
      exact ⟨_, rfl, hb1, hr1, hg1⟩
    · obtain ⟨j, rfl⟩ := Int.eq_ofNat_of_zero_le (show 0 ≤ n by omega)
      rw [Int.toNat_natCast] at H ⊢
      generalize takeB l 0 j = u at *
      clear hn0
      go_enter Tryd.func68, Tryd.ntmps68
      go_wp2_with fail
      refine (err_is _ g 0 l HR.out).mono ?_
      rintro x w1 ⟨rfl, rfl⟩
      go_wp2_with fail
      first | rw [show max (j : Int) 0 = (j : Int) from by omega] | skip
      refine (H.out).mono ?_
      rintro x w1 ⟨v1, rfl, hb1, hr1, hg1⟩
      go_wp2_with fail
      go_ret
      exact ⟨_, rfl, hb1, hr1, hg1⟩
  · rw [if_pos he]
    have he' : ((e : Int) != 0) = true := by simp; omega
    clear he
    go_enter Tryd.func68, Tryd.ntmps68
    go_wp2_with fail
    refine (err_is _ g e l HR.out).mono ?_
    rintro x w1 ⟨rfl, rfl⟩
    go_wp2_with fail
    go_ret
    exact ⟨_, rfl, Byt.nil _, HR.out, grown_refl _ _⟩
end Go.Proofs.YtknagdbhhfelnaaDoor

/-
  A reader's Word by its contract. Conditions: the bytes are fewer than 2^46.
-/
namespace Go.Proofs.YtknagdbhhfelnaaDoor
open Go.RowKit
set_option maxRecDepth 100000

def RWRel (m : List UInt8) (n i : Value) : Prop :=
  ∃ k : Nat, k ≤ m.length ∧ i = .int .i64 (k : Int) ∧ n = .int .u64 (wordN (m.take k) : Int)

set_option maxRecDepth 100000 in
set_option maxHeartbeats 1000000 in
theorem rword_is (w : World) (g e : Nat) (l : List UInt8) (k : Int) (hr : Rdr w g l e) (hlen : l.length ≤ 70368744177664) :
    Calls Tryd.prog 66 #[.pointer (some ⟨g, 0, none⟩), .int .i64 k] w (Told w g .u64 (wordR l e k).1 (wordR l e k).2.1 (wordR l e k).2.2) := by
  have HR := Lib.hid hr
  unfold wordR
  by_cases he : e = 0
  · subst he
    rw [if_neg (by omega)]
    by_cases hk : k = 2 ∨ k = 4 ∨ k = 8
    · rw [if_pos hk]
      have hw : (k == 2 || k == 4 || k == 8) = true := by rcases hk with rfl | rfl | rfl <;> rfl
      have HW := Lib.hid hw
      obtain ⟨j, rfl⟩ := Int.eq_ofNat_of_zero_le (show 0 ≤ k by omega)
      have H := Lib.hid (take_any w g l 0 j HR.out (by omega) (by omega) hlen)
      have h8 : (takeB l 0 j).1.length ≤ 8 := by
        unfold takeB
        split
        · simp only [List.length_take]; omega
        · simp
      simp only [Int.toNat_natCast]
      generalize takeB l 0 j = u at *
      obtain ⟨m, l', e'⟩ := u
      have hj : (0 : Int) ≤ (j : Int) := by omega
      have hj8 : (j : Int) ≤ 8 := by omega
      simp only at h8 H ⊢
      clear hr hw hk
      go_enter Tryd.func66, Tryd.ntmps66
      go_wp2_with fail
      refine (err_is _ g 0 l HR.out).mono ?_
      rintro x w1 ⟨rfl, rfl⟩
      go_wp2_with fail
      refine (isWidth_any _ _).mono ?_
      rintro x w1 ⟨rfl, rfl⟩
      rw [HW.out]
      go_wp2_with fail
      refine (H.out).mono ?_
      rintro x w1 ⟨v1, rfl, hb1, hr1, hg1⟩
      have HB := Lib.hid hb1
      have HR1 := Lib.hid hr1
      have HG1 := Lib.hid hg1
      obtain ⟨A, c, rfl, q1, q2, q3⟩ := hb1
      have Q3 := Lib.hid q3
      clear q3 hr1 hg1
      unfold maxLen at q2
      go_wp2_with fail
      go_loop [5, 22] (fun n i => RWRel m n i) (fun _ i => m.length - (intOf i).toNat)
      case atStart => exact ⟨0, by omega, rfl, rfl⟩
      case round =>
        obtain ⟨k, hk, rfl, rfl⟩ := hrel
        by_cases hlt : k < m.length
        · obtain ⟨b, off, rfl, hb, hc⟩ : ∃ b off, A = some ⟨b, off, none⟩ ∧ b < w1.heap.size ∧ ∀ j (hj : j < m.length), w1.cell? ⟨b, off + j, none⟩ = some (.int .u8 (m[j].toNat : Int)) := by
            rcases Q3.out with h | h
            · subst h; simp at hlt
            · exact h
          have hcell := hc k hlt
          clear hc
          have hst := word_step m k hlt (by omega)
          have hx : m[k].toNat < 256 := m[k].toNat_lt
          generalize m[k].toNat = x at *
          have HS := Lib.hid hst
          clear hst
          generalize wordN (m.take k) = a at *
          go_wp2
          go_round
          case rel => exact ⟨k + 1, by omega, by go_num, by rw [HS.out]⟩
          case measure => simp [intOf]; omega
        · have hfin : m.take k = m := List.take_of_length_le (by omega)
          rw [hfin]
          go_wp2
          go_ret
          exact ⟨rfl, HR1.out, HG1.out⟩
    · rw [if_neg hk]
      have hw : (k == 2 || k == 4 || k == 8) = false := by simp; omega
      have HW := Lib.hid hw
      obtain ⟨A, c, h0, h1, h2, hf1, hf2, hby, hlc, hcm⟩ := hr.cells
      have HR1 := Lib.hid (HR.out.setErr 4)
      clear hr hw hk hby
      go_enter Tryd.func66, Tryd.ntmps66
      go_wp2_with fail
      refine (err_is _ g 0 l HR.out).mono ?_
      rintro x w1 ⟨rfl, rfl⟩
      go_wp2_with fail
      refine (isWidth_any _ _).mono ?_
      rintro x w1 ⟨rfl, rfl⟩
      rw [HW.out]
      go_wp2_with fail
      go_ret
      exact ⟨rfl, HR1.out, grown_set _ _ _ _⟩
  · rw [if_pos he]
    have he' : ((e : Int) != 0) = true := by simp; omega
    clear he hr
    go_enter Tryd.func66, Tryd.ntmps66
    go_wp2_with fail
    refine (err_is _ g e l HR.out).mono ?_
    rintro x w1 ⟨rfl, rfl⟩
    go_wp2_with fail
    go_ret
    exact ⟨rfl, HR.out, grown_refl _ _⟩
end Go.Proofs.YtknagdbhhfelnaaDoor

/-
  'string(b)' by what the bytes are, laid ahead of a walk. Conditions: none.
-/
namespace Go.Proofs.YtknagdbhhfelnaaDoor
open Go.RowKit
set_option maxRecDepth 100000

theorem strB : Tryd.prog.underlying 9 = some .string := Tryd.underlying9

/-- 'string(v)', to be laid ahead of a walk. -/
theorem text_of {w : World} {v : Value} {l : List UInt8} (h : Byt w v l) : (convert 27 9 v).run Tryd.prog w = .ok (.string ⟨l.toArray⟩) w :=
  run_text w 27 9 5 Tryd.underlying27 Tryd.underlying5 Tryd.underlying9 v l h

/-- '[]byte(s)' -/
theorem bytes_of (w : World) (l : List UInt8) (hl : l.length ≤ 70368744177664) :
    ∃ v w', (convert 9 27 (.string ⟨l.toArray⟩)).run Tryd.prog w = .ok v w' ∧ Byt w' v l ∧ Below w.heap.size w w' := by
  have hm : l.length ≤ maxLen := by simp only [maxLen]; omega
  have hsz : (⟨l.toArray⟩ : ByteArray).size = l.length := by simp [ByteArray.size]
  refine ⟨_, _, Lib.run_convert_string_bytes w 9 27 5 ⟨l.toArray⟩ Tryd.underlying9 Tryd.underlying27 Tryd.underlying5, ?_, rfl, rfl, rfl, ?_, ?_⟩
  · rw [hsz]
    refine ⟨_, _, rfl, grownCap_ge _ _ _ _, grownCap_le_maxLen _ _ _ _ hm, .inr ⟨w.heap.size, 0, rfl, ?_, fun j hj => ?_⟩⟩
    · rw [Lib.bytesWorld_size]; omega
    · rw [Nat.zero_add, Lib.bytesWorld_cell _ _ _ _ (by rw [hsz]; exact hj)]
      simp [List.getD, hj]
  · rw [Lib.bytesWorld_size]; omega
  · intro j hj
    exact Lib.bytesWorld_at_old w _ _ j hj

theorem bytes_eq (l m : List UInt8) : ((⟨l.toArray⟩ : ByteArray).toList == (⟨m.toArray⟩ : ByteArray).toList) = decide (l = m) := by
  rw [ByteArray.toList_eq, ByteArray.toList_eq]
  by_cases h : l = m
  · subst h; simp
  · simp [h]
theorem bytes_lit (l m : List UInt8) : ((⟨l.toArray⟩ : ByteArray).toList == m) = decide (l = m) := by
  rw [ByteArray.toList_eq]
  by_cases h : l = m
  · subst h; simp
  · simp [h]
theorem equal_any (w : World) (u v : Value) (l m : List UInt8) (hu : Byt w u l) (hv : Byt w v m) :
    Calls Tryd.prog 93 #[u, v] w fun e w' => e = .returned (.bool (decide (l = m))) ∧ w = w' := by
  have T1 := text_of hu
  have T2 := text_of hv
  have E := Lib.hid (bytes_eq l m)
  obtain ⟨A, n, c, rfl, N, hnc, hcm⟩ := hu.form
  obtain ⟨A2, n2, c2, rfl, N2, hnc2, hcm2⟩ := hv.form
  clear hu hv
  generalize (⟨l.toArray⟩ : ByteArray) = s1 at *
  generalize (⟨m.toArray⟩ : ByteArray) = s2 at *
  go_enter Tryd.func93, Tryd.ntmps93
  go_wp2_with fail
  go_ret
  exact ⟨by rw [E.out]; rfl, rfl⟩
end Go.Proofs.YtknagdbhhfelnaaDoor

