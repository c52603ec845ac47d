/-
  Rows of sectors beside a disk (Lines), written and copied; a disk without a fault. Conditions: none.
-/
import Derived.Test.YtagchbpofoidmaaDoorSecS
import Derived.Test.YtagchbpofoidmaaDoorSecT
namespace Go.Proofs.YtagchbpofoidmaaDoor
open Go.RowKit Go.Maps
set_option maxRecDepth 100000

theorem grownCell (a : World) (g i : Nat) (u : Value) : a.grownBy (a.setCell ⟨g, i, none⟩ u) (some g) := ⟨rfl, rfl, rfl, by simp [World.setCell], fun k _ hk => Below.heap_setCell _ _ _ _ (by rintro rfl; exact hk rfl)⟩
/-- Block X is a row of n slices, the first k of them these sectors, apart from the disk of the blocks S. -/
def Lines (w : World) (S : Nat → Prop) (X n k : Nat) (ls : Nat → List UInt8) : Prop :=
  ∃ vs : List Value, vs.length = n ∧ w.heap[X]? = some (.cells vs.toArray 22 (0, 0)) ∧ ¬ S X ∧
    ∀ j (hj : j < vs.length), (∃ A m c, vs[j] = .slice A m c) ∧ (j < k → Byt w vs[j] (ls j) ∧ (ls j).length = 512 ∧ ∀ x, vs[j].ownBlock = some x → ¬ S x)
section
variable {w w' : World} {S S' : Nat → Prop} {X Y n k : Nat} {ls ls' : Nat → List UInt8}
theorem Lines.lt (h : Lines w S X n k ls) : X < w.heap.size := by
  obtain ⟨vs, _, hx, _⟩ := h
  exact (Array.getElem?_eq_some_iff.1 hx).1
theorem Lines.off (h : Lines w S X n k ls) : ¬ S X := by
  obtain ⟨vs, _, _, hx, _⟩ := h
  exact hx
theorem Byt.blockLt {v : Value} {l : List UInt8} (h : Byt w v l) (hl : l.length = 512) : ∀ x, v.ownBlock = some x → x < w.heap.size := by
  obtain ⟨A, c, rfl, _, _, h3⟩ := h
  rcases h3 with h3 | ⟨b, off, rfl, hb, _⟩
  · subst h3; cases hl
  · intro x hx
    simp [Value.ownBlock] at hx
    exact hx ▸ hb
theorem Lines.trn (h : Lines w S X n k ls) (ht : Trn S w w') (hS : ∀ x, S' x → x < w.heap.size → S x) : Lines w' S' X n k ls := by
  have hlt := h.lt
  obtain ⟨vs, hn, hx, ho, hj⟩ := h
  refine ⟨vs, hn, (ht.block X hlt ho).trans hx, fun hs => ho (hS X hs hlt), fun j hjl => ⟨(hj j hjl).1, fun hk => ?_⟩⟩
  obtain ⟨h1, h2, h3⟩ := (hj j hjl).2 hk
  exact ⟨h1.trn ht h3, h2, fun x hx hs => h3 x hx (hS x hs (h1.blockLt h2 x hx))⟩
theorem Lines.below (h : Lines w S X n k ls) (hb : Below w.heap.size w w') : Lines w' S X n k ls := by
  have hlt := h.lt
  obtain ⟨vs, hn, hx, ho, hj⟩ := h
  exact ⟨vs, hn, (hb.block X hlt).trans hx, ho, fun j hjl => ⟨(hj j hjl).1, fun hk => ⟨((hj j hjl).2 hk).1.below hb, ((hj j hjl).2 hk).2⟩⟩⟩
theorem Lines.same (h : Lines w S X n k ls) (hl : ∀ j, j < k → ls j = ls' j) : Lines w S X n k ls' := by
  obtain ⟨vs, hn, hx, ho, hj⟩ := h
  exact ⟨vs, hn, hx, ho, fun j hjl => ⟨(hj j hjl).1, fun hk => by rw [← hl j hk]; exact (hj j hjl).2 hk⟩⟩
theorem Lines.drew (h : Lines w S X n k ls) : Lines w.drew S X n k ls := h
theorem Lines.cell (h : Lines w S X n n ls) {q : Nat} (hq : q < n) : ∃ A c, w.cell? ⟨X, q, none⟩ = some (.slice A 512 c) ∧ Byt w (.slice A 512 c) (ls q) ∧ (ls q).length = 512 ∧ 512 ≤ c ∧ c ≤ 9223372036854775807 := by
  obtain ⟨vs, hn, hx, _, hj⟩ := h
  have hqv : q < vs.length := by omega
  obtain ⟨h1, h2, _⟩ := (hj q hqv).2 hq
  obtain ⟨A, m, c, e, N, h3, h4⟩ := h1.form
  obtain rfl : m = 512 := N.out.trans h2
  refine ⟨A, c, ?_, e ▸ h1, h2, h3, h4⟩
  rw [cell_of_row _ _ _ _ _ _ hx]
  simp [hqv, e]
theorem Lines.any (h : Lines w S X n k ls) {q : Nat} (hq : q < n) : ∃ A m c, w.cell? ⟨X, q, none⟩ = some (.slice A m c) := by
  obtain ⟨vs, hn, hx, _, hj⟩ := h
  have hqv : q < vs.length := by omega
  obtain ⟨A, m, c, e⟩ := (hj q hqv).1
  refine ⟨A, m, c, ?_⟩
  rw [cell_of_row _ _ _ _ _ _ hx]
  simp [hqv, e]
theorem Lines.frozen (h : Lines w S X n k ls) (q : Nat) : w.frozen? ⟨X, q, none⟩ = false := by
  obtain ⟨vs, hn, hx, _⟩ := h
  simp [World.frozen?, hx]
theorem Lines.notByte (h : Lines w S X n k ls) : ¬ ∃ off u, w.cell? ⟨X, off, none⟩ = some (.int .u8 u) := by
  obtain ⟨vs, hn, hx, _, hj⟩ := h
  rintro ⟨off, u, hc⟩
  rw [cell_of_row _ _ _ _ _ _ hx] at hc
  by_cases ho : off < vs.length
  · obtain ⟨A, m, c, e⟩ := (hj off ho).1
    simp [ho, e] at hc
  · simp [ho] at hc
theorem Byt.lines {v : Value} {l : List UInt8} (h : Byt w v l) (hl : Lines w S X n k ls) (hg : w.grownBy w' (some X)) : Byt w' v l :=
  h.keep hg.size fun b hlt hex => hg.block b hlt (by rintro ⟨rfl⟩; exact hl.notByte hex)
theorem Lines.other (h : Lines w S X n k ls) {m j : Nat} {ls' : Nat → List UInt8} (hy : Lines w S Y m j ls') (hne : X ≠ Y) (hg : w.grownBy w' (some Y)) : Lines w' S X n k ls := by
  have hlt := h.lt
  obtain ⟨vs, hn, hx, ho, hj⟩ := h
  exact ⟨vs, hn, (hg.block X hlt (by rintro ⟨rfl⟩; exact hne rfl)).trans hx, ho, fun i hi => ⟨(hj i hi).1, fun hk => ⟨((hj i hi).2 hk).1.lines hy hg, ((hj i hi).2 hk).2⟩⟩⟩
/-- A place written. -/
theorem Lines.set (h : Lines w S X n k ls) {q : Nat} {v : Value} {l : List UInt8} (hv : Byt w v l) (hl : l.length = 512) (hs : ∀ x, v.ownBlock = some x → ¬ S x) (k' : Nat) (hk : ∀ j, j < k' → j = q ∨ j < k) :
    Lines (w.setCell ⟨X, q, none⟩ v) S X n k' (fun j => if j = q then l else ls j) := by
  have h0 := h
  obtain ⟨vs, hn, hx, ho, hj⟩ := h
  have hg := grownCell w X q v
  refine ⟨vs.set q v, by simpa using hn, ?_, ho, fun j hjl => ?_⟩
  · simp [World.setCell, Array.getElem?_modify, hx]
  · have hjv : j < vs.length := by simpa using hjl
    by_cases e : j = q
    · subst e
      have e2 : (vs.set j v)[j] = v := by simp
      rw [e2]
      obtain ⟨A, m, c, e3, _⟩ := hv.form
      refine ⟨⟨A, m, c, e3⟩, fun _ => ?_⟩
      simp only [if_true]
      exact ⟨hv.lines h0 hg, hl, hs⟩
    · have e2 : (vs.set q v)[j] = vs[j] := by simp [Ne.symm e]
      rw [e2]
      refine ⟨(hj j hjv).1, fun hk' => ?_⟩
      simp only [if_neg e]
      have hjk : j < k := (hk j hk').resolve_left e
      exact ⟨((hj j hjv).2 hjk).1.lines h0 hg, ((hj j hjv).2 hjk).2⟩
end
/-- 'copy(x, y)' of such rows. -/
theorem wpList_copyL {ops : Array Oper} {rest : List Oper} {o : Oper} {a : Act} {w : World} {Q : Exit → Act → World → Prop} {S : Nat → Prop} {X Y n : Nat} {ls ls' : Nat → List UInt8}
    (hgd : o.guard = none) (d s : Operand) (ho : o.op = .call { callee := .builtin .copy, args := #[d, s], argTypes := #[41, 41] })
    (hd : a.eval d = .slice (some ⟨X, 0, none⟩) n n) (hs : a.eval s = .slice (some ⟨Y, 0, none⟩) n n) (hx : Lines w S X n n ls) (hy : Lines w S Y n n ls') (hne : X ≠ Y)
    (h : ∀ w', Lines w' S X n n ls' → Lines w' S Y n n ls' → w.grownBy w' (some X) → w'.heap.size = w.heap.size → wpList Tryd.prog ops Q rest (a.put o.dst (goInt n)) w') : wpList Tryd.prog ops Q (o :: rest) a w := by
  have hx0 := hx
  have hy0 := hy
  obtain ⟨vs, hn, hxb, hxo, hj⟩ := hx
  obtain ⟨us, hm, hyb, hyo, hi⟩ := hy
  have hone : ∀ v ∈ us, v.oneCell' = true := by
    intro v hv
    obtain ⟨j, hj', rfl⟩ := List.getElem_of_mem hv
    obtain ⟨A, m, c, e⟩ := (hi j hj').1
    rw [e]; rfl
  have hrun := run_copy_row (P := Tryd.prog) w 41 41 o.type 22 X 0 n n ⟨Y, 0, none⟩ n n vs.toArray 22 us Tryd.underlying41 (by kernel_rfl) hxb (by simp [hm]) (fun j v hv => by
    rw [plainAdd, Nat.zero_add, cell_of_row _ _ _ _ _ _ hyb]
    simpa using hv) (by simp; omega) hone
  have e : (vs.toArray.toList.take 0 ++ us ++ vs.toArray.toList.drop (0 + us.length)).toArray = us.toArray := by
    rw [List.take_zero, List.nil_append, List.drop_of_length_le (by simp; omega), List.append_nil]
  rw [e, hm] at hrun
  have hg : w.grownBy (w.setRow X us.toArray) (some X) := ⟨rfl, rfl, rfl, by simp [World.setRow], fun k _ hk => setRow_other w X k _ (fun e => hk (by rw [e]))⟩
  refine wpList_plain hgd fun K hK => ?_
  unfold Oper.wp
  simp [execOp, ho, resolve, invoke, builtin, hd, hs, hrun, Result.andThen]
  refine hK _ _ (h _ ⟨us, hm, setRow_heap w X _ _ _ _ hxb, hxo, fun j hjl => ⟨(hi j hjl).1, fun hk => ⟨((hi j hjl).2 hk).1.lines hx0 hg, ((hi j hjl).2 hk).2⟩⟩⟩ (hy0.other hx0 (Ne.symm hne) hg) hg (by simp [World.setRow]))

/-! A disk without a fault. -/
theorem tick_none {s : St} (h : s.F = none) : tick s = s := by
  obtain ⟨B, C, F⟩ := s
  have : F = none := h
  subst this
  rfl
theorem read0 {w : World} {S : Nat → Prop} {g : Nat} {s : St} {n : Nat} (h : Dsk w S g s) (hF : s.F = none) (hn : n < secs s) :
    Calls Tryd.prog 46 #[.pointer (some ⟨g, 0, none⟩), .int .i64 (n : Int)] w (Red w S g (readB s n, 0, s)) := by
  have := read_is w S g s (n : Int) h
  rw [read_done s n hF hn] at this
  exact this
theorem write0 {w : World} {S : Nat → Prop} {g : Nat} {s : St} {n : Nat} {v : Value} {l : List UInt8} (h : Dsk w S g s) (hF : s.F = none) (hn : n < secs s) (hv : Byt w v l) (hl : l.length = 512) (hne : ∀ k, v.ownBlock = some k → ¬ S k) :
    Calls Tryd.prog 49 #[.pointer (some ⟨g, 0, none⟩), .int .i64 (n : Int), v] w (Done w S g (0, writeS s n l)) := by
  have := write_any w S g s (n : Int) v l h hv hne
  rw [write_done s n l hF hn hl] at this
  exact this
theorem flush0 {w : World} {S : Nat → Prop} {g : Nat} {s : St} (h : Dsk w S g s) (hF : s.F = none) :
    Calls Tryd.prog 36 #[.pointer (some ⟨g, 0, none⟩)] w (Done w S g (0, settleS (fun _ => 512) s)) := by
  have := flush_is w S g s h
  have e : flushR s = (0, settleS (fun _ => 512) s) := by unfold flushR; rw [hF, tick_none hF]; rfl
  rw [e] at this
  exact this
theorem Done.lines {w : World} {S : Nat → Prop} {g : Nat} {r : Nat × St} {e : Ending} {w' : World} {B : Nat} (h : Done w S g r e w') (hB : B ≤ w.heap.size) (hS : ∀ k, S k → B ≤ k) :
    e = .returned (.int .i64 ((r.1 : Nat) : Int)) ∧ ∃ S', Dsk w' S' g r.2 ∧ (∀ k, S' k → B ≤ k) ∧ (∀ X n k ls, Lines w S X n k ls → Lines w' S' X n k ls) ∧ Below B w w' ∧ (∀ v l, Byt w v l → (∀ x, v.ownBlock = some x → ¬ S x) → Byt w' v l) ∧ (∀ x, x < w.heap.size → S' x → S x) ∧ Trn S w w' := by
  obtain ⟨h1, S', h2, h3, h4, h5⟩ := h.own hB hS
  exact ⟨h1, S', h2, h3, fun X n k ls hl => hl.trn h5 (fun x hx hlt => h4 x hx hlt), h5.below hB hS, fun v l hv hx => hv.trn h5 hx, fun x hlt hx => h4 x hx hlt, h5⟩
end Go.Proofs.YtagchbpofoidmaaDoor
