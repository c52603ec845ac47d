/-
  Disks in memory: which blocks a disk is (Dsk), what a call of one may change (Trn), sectors as whole arrays (rowE). Conditions: none.
-/
import Derived.Test.YtmfcckmcbmlhmaaSecA
import Derived.Deep.WholeRow
namespace Go.Proofs.Ytmfcckmcbmlhmaa
open Go.RowKit Go.Maps
set_option maxRecDepth 100000

/-! What may have turned: the blocks of S, and new ones. -/
structure Trn (S : Nat → Prop) (w w' : World) : Prop where
  os : w'.os = w.os
  tape : w'.tape = w.tape
  output : w'.output = w.output
  size : w.heap.size ≤ w'.heap.size
  block : ∀ k, k < w.heap.size → ¬ S k → w'.heap[k]? = w.heap[k]?
/-- S and all blocks that were made since. -/
def more (S : Nat → Prop) (w w' : World) : Nat → Prop := fun k => S k ∨ (w.heap.size ≤ k ∧ k < w'.heap.size)
theorem Trn.refl (S : Nat → Prop) (w : World) : Trn S w w := ⟨rfl, rfl, rfl, Nat.le_refl _, fun _ _ _ => rfl⟩
theorem Trn.trans {S T : Nat → Prop} {a b c : World} (h : Trn S a b) (k : Trn T b c) (hT : ∀ i, i < a.heap.size → T i → S i) : Trn S a c :=
  ⟨k.os.trans h.os, k.tape.trans h.tape, k.output.trans h.output, Nat.le_trans h.size k.size, fun i hi hs => (k.block i (Nat.lt_of_lt_of_le hi h.size) (fun ht => hs (hT i hi ht))).trans (h.block i hi hs)⟩
theorem Trn.wide {S T : Nat → Prop} {a b : World} (h : Trn S a b) (hT : ∀ i, S i → T i) : Trn T a b := ⟨h.os, h.tape, h.output, h.size, fun i hi hs => h.block i hi (fun k => hs (hT i k))⟩
theorem Trn.of_grown {S : Nat → Prop} {a b : World} {r : Option Nat} (h : a.grownBy b r) (hr : ∀ i, r = some i → S i) : Trn S a b :=
  ⟨h.os, h.tape, h.output, h.size, fun i hi hs => h.block i hi (fun e => hs (hr i e.symm))⟩
theorem Trn.of_below {S : Nat → Prop} {a b : World} (h : Below a.heap.size a b) : Trn S a b := ⟨h.os, h.tape, h.output, h.size, fun i hi _ => h.block i hi⟩
theorem Trn.below {S : Nat → Prop} {a b : World} {B : Nat} (h : Trn S a b) (hB : B ≤ a.heap.size) (hS : ∀ i, S i → B ≤ i) : Below B a b := ⟨h.os, h.tape, h.output, h.size, fun i hi => h.block i (by omega) (fun hs => by have := hS i hs; omega)⟩
theorem Trn.alloc {S : Nat → Prop} {a b : World} (h : Trn S a b) (o : Obj) : Trn S a (b.alloc o) := h.trans (T := fun _ => False) (Trn.of_below (below_new b o)) (fun _ _ f => f.elim)
theorem Trn.setCell {S : Nat → Prop} {a b : World} (h : Trn S a b) {g k : Nat} (v : Value) (hg : g < a.heap.size → S g) : Trn S a (b.setCell ⟨g, k, none⟩ v) :=
  ⟨h.os, h.tape, h.output, by simpa [World.setCell] using h.size, fun i hi hs => (Below.heap_setCell _ _ _ _ (by rintro rfl; exact hs (hg hi))).trans (h.block i hi hs)⟩
theorem Trn.more {S : Nat → Prop} {a b c : World} (h : Trn S a b) (k : Trn (more S a b) b c) : Trn S a c := h.trans k (fun i hi hs => hs.elim id (fun h => by omega))

/-! Sectors by value. -/
def unbyc : List Value → Option (List UInt8)
  | [] => some []
  | .int .u8 x :: r => if 0 ≤ x ∧ x ≤ 255 then (unbyc r).map (UInt8.ofNat x.toNat :: ·) else none
  | _ => none
theorem unbyc_byc (l : List UInt8) : unbyc (byc l) = some l := by
  induction l with
  | nil => rfl
  | cons x l ih =>
    show unbyc (.int .u8 (x.toNat : Int) :: byc l) = _
    have hx : x.toNat < 256 := x.toNat_lt
    unfold unbyc
    rw [if_pos (by omega), ih]
    simp
theorem unbyc_inv : ∀ (cs : List Value) (l : List UInt8), unbyc cs = some l → cs = byc l := by
  intro cs
  induction cs with
  | nil => intro l h; cases h; rfl
  | cons v cs ih =>
    intro l h
    unfold unbyc at h
    split at h
    · rename_i heq; cases heq
    · rename_i x r heq
      injection heq with e1 e2
      subst e1 e2
      split at h
      · rename_i hx
        cases hu : unbyc cs with
        | none => rw [hu] at h; cases h
        | some m =>
          rw [hu] at h
          simp at h
          subst h
          rw [ih m hu]
          show _ = Value.int .u8 (((UInt8.ofNat x.toNat).toNat : Nat) : Int) :: byc m
          rw [UInt8.toNat_ofNat']
          congr 2
          omega
      · cases h
    · cases h
/-- How a sector in the cache reads. -/
def rowE (v : Value) : Option (DataW Unit × List MemPlace) :=
  match v with
  | .agg cs => match unbyc cs.toList with
    | some l => if l.length = 512 then some (.lit (.string l), []) else none
    | none => none
  | _ => none
theorem rowE_mk (l : List UInt8) (hl : l.length = 512) : rowE (.agg (byc l).toArray) = some (.lit (.string l), []) := by
  simp [rowE, unbyc_byc, hl]
theorem rowE_inv {v : Value} {d : DataW Unit} {ps : List MemPlace} (h : rowE v = some (d, ps)) : ∃ l, l.length = 512 ∧ v = .agg (byc l).toArray ∧ d = .lit (.string l) := by
  unfold rowE at h
  split at h
  · rename_i cs
    split at h
    · rename_i l hu
      split at h
      · rename_i hl
        simp at h
        refine ⟨l, hl, ?_, h.1.symm⟩
        rw [← unbyc_inv _ _ hu]
      · cases h
    · cases h
  · cases h
theorem byc_inj {l m : List UInt8} (h : byc l = byc m) : l = m := by
  have := unbyc_byc l
  rw [h, unbyc_byc] at this
  injection this with e
  exact e.symm
theorem byc_take (l : List UInt8) (k : Nat) : byc (l.take k) = (byc l).take k := by simp [byc]
theorem byc_drop (l : List UInt8) (k : Nat) : byc (l.drop k) = (byc l).drop k := by simp [byc]
theorem byc_splice (l m : List UInt8) (k : Nat) : byc (splice l k m) = splice (byc l) k (byc m) := by simp [splice, byc]
def zero512 : List UInt8 := List.replicate 512 0
theorem zero512_len : zero512.length = 512 := List.length_replicate
theorem rowInfo : (Try.prog.info? 80).map (fun i => (i.zero, i.size)) = some (some (.agg (byc zero512).toArray), 512) := by kernel_rfl
theorem rowZero : ∀ w, (zeroValue 80).run Try.prog w = .ok (.agg (byc zero512).toArray) w := (zero_of_info rowInfo).1
theorem rowSize : (Try.prog.info? 80).map (·.size) = some 512 := (zero_of_info rowInfo).2
theorem rowUnder : Try.prog.underlying 80 = some (.array 512 5) := by kernel_rfl
theorem intKeyed : Keyed Try.prog 3 := int_keyed Try.underlying3

/-- Block g is this sector, as a variable. -/
def ARow (w : World) (g : Nat) (l : List UInt8) : Prop := w.heap[g]? = some (.cells (byc l).toArray 80)
theorem ARow.byt {w : World} {g : Nat} {l : List UInt8} (h : ARow w g l) (hl : l.length = 512) : Byt w (.slice (some ⟨g, 0, none⟩) 512 512) l := by
  refine ⟨_, 512, by rw [hl], by omega, by simp [maxLen], .inr ⟨g, 0, rfl, (Array.getElem?_eq_some_iff.1 h).1, fun j hj => ?_⟩⟩
  rw [Nat.zero_add, cell_of_row _ _ _ _ _ _ h]
  simp [byc, hj]
section
variable {ops : Array Oper} {rest : List Oper} {o : Oper} {a : Act} {w : World} {K : Act → World → Prop} {Q : Exit → Act → World → Prop}
/-- A sector into a variable that was just made. -/
theorem wpList_storeRow {w1 : World} (t u : List UInt8) (ht : t.length = 512) (hu : u.length = 512) (hgd : o.guard = none) (x y : Operand) (ho : o.op = .store 80 x y) (hx : a.eval x = .pointer (some ⟨w1.heap.size, 0, none⟩)) (hy : a.eval y = .agg (byc u).toArray)
    (hK : ∀ w', ARow w' w1.heap.size u → Below w1.heap.size w1 w' → w1.heap.size < w'.heap.size → wpList Try.prog ops Q rest (a.put o.dst undef) w') : wpList Try.prog ops Q (o :: rest) a (w1.alloc (.cells (byc t).toArray 80)) := by
  refine wpList_store_row hgd 80 x y ho w1.heap.size (byc u).toArray hx hy 80 (byc t).toArray (heap_alloc_new w1 _) (by rw [List.size_toArray, byc_len, hu]; exact rowSize) (by simp [byc_len, ht, hu]) (by
      rw [Array.all_eq_true_iff_forall_mem]
      intro x hx
      exact byc_one u x (by simpa using hx)) ?_
  rw [World.setRow_alloc_new]
  exact hK _ (heap_alloc_new w1 _) (below_new w1 _) (by simp)
/-- A sector out of a slice's bytes. -/
theorem load_sector {u : World} {b off : Nat} {l : List UInt8} (hl : l.length = 512) (hc : ∀ j (hj : j < l.length), u.cell? ⟨b, off + j, none⟩ = some (.int .u8 (l[j].toNat : Int))) :
    (loadVar 80 ⟨b, off, none⟩).run Try.prog u = .ok (.agg (byc l).toArray) u := by
  have h1 := run_loadCells_list (P := Try.prog) u ⟨b, off, none⟩ (byc l) (fun j v hv => by
    obtain ⟨hj, rfl⟩ := byc_get l j v hv
    rw [plainAdd]
    exact hc j hj)
  rw [byc_len, hl] at h1
  have hagg : (isAgg 80).run Try.prog u = .ok true u := by
    unfold isAgg
    rw [Sem.run_bind, run_underlying rowUnder u]
    rfl
  have hsz : (sizeOf 80).run Try.prog u = .ok 512 u := by
    have := rowSize
    cases hq : Try.prog.info? 80 with
    | none => simp [hq] at this
    | some i => simp [hq] at this; simp [sizeOf, typeInfo, hq, this]
  unfold loadVar
  simp only [Sem.run_bind, hagg, Result.andThen_ok, if_true, hsz, h1, Sem.run_pure]
theorem exec_loadSector {u : World} (x : Operand) (ho : o.op = .load 80 x) (b off : Nat) (hx : a.eval x = .pointer (some ⟨b, off, none⟩)) {l : List UInt8} (hl : l.length = 512) (hc : ∀ j (hj : j < l.length), u.cell? ⟨b, off + j, none⟩ = some (.int .u8 (l[j].toNat : Int))) :
    (execOp a.eval o).run Try.prog u = .ok (.value (.agg (byc l).toArray)) u := by
  unfold execOp
  simp only [ho, hx, Instr.loadAt, Instr.sureAddr, Sem.run_bind, Sem.run_pure, Result.andThen_ok, load_sector hl hc]
end

/-! The cache's map. -/
def keyL (n : Nat) : Lit := .int .i64 (n : Int)
theorem keyL_ne {a b : Nat} (h : a ≠ b) : keyL a ≠ keyL b := by
  intro e
  injection e with _ e
  omega
theorem keyL_wf {n : Nat} (h : n ≤ 9223372036854775807) : (keyL n).wf = true := by
  simp [keyL, Lit.wf, IntKind.min, IntKind.max, IntKind.signed, IntKind.bits]; omega
def zrow : DataW Unit := .lit (.string zero512)
structure Fits (D : DataW Unit) (C : Cch) : Prop where
  size : Maps.size D = C.length
  hit : ∀ n l, lookC C n = some l → Maps.has D (keyL n) = true ∧ D.atKey (keyL n) zrow = .lit (.string l)
  miss : ∀ n, lookC C n = none → Maps.has D (keyL n) = false
theorem Fits.nil : Fits (.map []) [] := ⟨rfl, fun n l h => (by cases h), fun n _ => rfl⟩
theorem Fits.put {D : DataW Unit} {C : Cch} (h : Fits D C) (hD : Tidy D) (n : Nat) (l : List UInt8) : Fits (D.put (keyL n) (.lit (.string l))) (putC C n l) := by
  have hk : WideAt.IsKeyLit (keyL n) := trivial
  refine ⟨?_, fun m x hx => ?_, fun m hm => ?_⟩
  · cases hl : lookC C n with
    | some x => rw [put_len_has l hl, ← h.size, size_put hD]; rw [(h.hit n x hl).1]; rfl
    | none => rw [put_new l hl, List.length_append, ← h.size, size_put hD]; rw [h.miss n hl]; rfl
  · rw [lookC_put] at hx
    by_cases e : n = m
    · subst e
      rw [if_pos rfl] at hx
      injection hx with hx
      subst hx
      exact ⟨has_put_same hD.isMap hk _, atKey_put_same hD.isMap hk _ _⟩
    · rw [if_neg e] at hx
      have := h.hit m x hx
      exact ⟨by rw [has_put_other (keyL_ne (Ne.symm e))]; exact this.1, by rw [atKey_put_other (keyL_ne (Ne.symm e))]; exact this.2⟩
  · rw [lookC_put] at hm
    by_cases e : n = m
    · rw [if_pos e] at hm; cases hm
    · rw [if_neg e] at hm
      rw [has_put_other (keyL_ne (Ne.symm e))]
      exact h.miss m hm

/-! Disks. -/
def inz (l : List Nat) : List Value := l.map fun (n : Nat) => Value.int .i64 (n : Int)
theorem inz_len (l : List Nat) : (inz l).length = l.length := by simp [inz]
/-- The fault's counter. -/
def Flt (w : World) (vf : Value) (F : Option Nat) : Prop :=
  (vf = .pointer none ∧ F = none) ∨ ∃ f n, vf = .pointer (some ⟨f, 0, none⟩) ∧ F = some n ∧ w.heap[f]? = some (.cells #[.int .i64 (n : Int)] 3 (0, 0))
def ptrBlock : Value → Option Nat
  | .pointer (some a) => some a.block
  | _ => none
structure DskAt (w : World) (g : Nat) (s : St) (ib ic m : Nat) (vo vf : Value) (D : DataW Unit) : Prop where
  obj : w.heap[g]? = some (.cells #[.slice (some ⟨ib, 0, none⟩) s.B.length ic, .map (some m), vo, vf] 70 (0, 0))
  img : Own w 0 5 (.slice (some ⟨ib, 0, none⟩) s.B.length ic) s.B
  mp : w.ownsMap Try.prog 3 rowE m s.C.length D
  fits : Fits D s.C
  ord : w.ownsRow 0 3 1 vo s.C.length (inz (keysC s.C))
  flt : Flt w vf s.F
  apart : ∀ f, ptrBlock vf = some f → vo.ownBlock ≠ some f
structure Foot (S : Nat → Prop) (w : World) (g ib m : Nat) (vo vf : Value) : Prop where
  g : S g
  ib : S ib
  m : S m
  o : ∀ k, vo.ownBlock = some k → S k
  f : ∀ k, ptrBlock vf = some k → S k
  lt : ∀ k, S k → k < w.heap.size
def Dsk (w : World) (S : Nat → Prop) (g : Nat) (s : St) : Prop := ∃ ib ic m vo vf D, DskAt w g s ib ic m vo vf D ∧ Foot S w g ib m vo vf ∧ OkSt s

theorem ownsRow_block {w : World} {e : TypeId} {v : Value} {n k : Nat} {xs : List Value} (h : w.ownsRow 0 e 1 v n xs) (hk : v.ownBlock = some k) : ∃ cur, w.heap[k]? = some (.cells cur e (0, 0)) := by
  rcases h.2 with ⟨rfl, _⟩ | ⟨g, cap, cur, rfl, _, hg, _⟩
  · cases hk
  · simp [Value.ownBlock] at hk
    subst hk
    exact ⟨cur, hg⟩
theorem ownsRow_same {w w' : World} {e : TypeId} {v : Value} {n : Nat} {xs : List Value} (h : w.ownsRow 0 e 1 v n xs) (hb : ∀ k, v.ownBlock = some k → w'.heap[k]? = w.heap[k]?) : w'.ownsRow 0 e 1 v n xs := by
  refine ⟨h.1, ?_⟩
  rcases h.2 with ⟨rfl, h0⟩ | ⟨g, cap, cur, rfl, hle, hg, r⟩
  · exact .inl ⟨rfl, h0⟩
  · exact .inr ⟨g, cap, cur, rfl, hle, (hb g rfl).trans hg, r⟩
theorem ownsMap_same {w w' : World} {m n : Nat} {D : DataW Unit} (h : w.ownsMap Try.prog 3 rowE m n D) (hb : w'.heap[m]? = w.heap[m]?) : w'.ownsMap Try.prog 3 rowE m n D := by
  obtain ⟨es, clock, h1, r⟩ := h
  exact ⟨es, clock, hb.trans h1, r⟩
theorem Flt.same {w w' : World} {vf : Value} {F : Option Nat} (h : Flt w vf F) (hb : ∀ k, ptrBlock vf = some k → w'.heap[k]? = w.heap[k]?) : Flt w' vf F := by
  rcases h with h | ⟨f, n, rfl, rfl, h⟩
  · exact .inl h
  · exact .inr ⟨f, n, rfl, rfl, (hb f rfl).trans h⟩
/-- A disk stays as it is while its blocks do. -/
theorem Dsk.same {w w' : World} {S : Nat → Prop} {g : Nat} {s : St} (h : Dsk w S g s) (hs : w.heap.size ≤ w'.heap.size) (hb : ∀ k, S k → w'.heap[k]? = w.heap[k]?) : Dsk w' S g s := by
  obtain ⟨ib, ic, m, vo, vf, D, h, F, ok⟩ := h
  refine ⟨ib, ic, m, vo, vf, D, ⟨(hb g F.g).trans h.obj, ownsRow_same h.img (fun k hk => hb k ?_), ownsMap_same h.mp (hb m F.m), h.fits, ownsRow_same h.ord (fun k hk => hb k (F.o k hk)), h.flt.same (fun k hk => hb k (F.f k hk)), h.apart⟩,
    ⟨F.g, F.ib, F.m, F.o, F.f, fun k hk => Nat.lt_of_lt_of_le (F.lt k hk) hs⟩, ok⟩
  simp [Value.ownBlock] at hk
  exact hk ▸ F.ib
theorem Dsk.trn {w w' : World} {S T : Nat → Prop} {g : Nat} {s : St} (h : Dsk w S g s) (ht : Trn T w w') (hST : ∀ k, S k → ¬ T k) : Dsk w' S g s := by
  have hlt : ∀ k, S k → k < w.heap.size := by
    obtain ⟨ib, ic, m, vo, vf, D, _, F, _⟩ := h
    exact F.lt
  exact h.same ht.size (fun k hk => ht.block k (hlt k hk) (hST k hk))
theorem Dsk.below {w w' : World} {S : Nat → Prop} {g : Nat} {s : St} (h : Dsk w S g s) (ht : Below w.heap.size w w') : Dsk w' S g s := h.trn (T := fun _ => False) (Trn.of_below ht) (fun _ _ f => f)
theorem Dsk.lt {w : World} {S : Nat → Prop} {g : Nat} {s : St} (h : Dsk w S g s) : ∀ k, S k → k < w.heap.size := by
  obtain ⟨ib, ic, m, vo, vf, D, _, F, _⟩ := h
  exact F.lt
theorem Dsk.ok {w : World} {S : Nat → Prop} {g : Nat} {s : St} (h : Dsk w S g s) : OkSt s := by
  obtain ⟨ib, ic, m, vo, vf, D, _, _, ok⟩ := h
  exact ok
theorem Dsk.wide {w : World} {S T : Nat → Prop} {g : Nat} {s : St} (h : Dsk w S g s) (hT : ∀ k, S k → T k) (hlt : ∀ k, T k → k < w.heap.size) : Dsk w T g s := by
  obtain ⟨ib, ic, m, vo, vf, D, h, F, ok⟩ := h
  exact ⟨ib, ic, m, vo, vf, D, h, ⟨hT _ F.g, hT _ F.ib, hT _ F.m, fun k hk => hT k (F.o k hk), fun k hk => hT k (F.f k hk), hlt⟩, ok⟩
theorem Dsk.obj {w : World} {S : Nat → Prop} {g : Nat} {s : St} (h : Dsk w S g s) :
    ∃ ib ic m vo vf, w.heap[g]? = some (.cells #[.slice (some ⟨ib, 0, none⟩) s.B.length ic, .map (some m), vo, vf] 70 (0, 0)) ∧ s.B.length ≤ ic ∧ ic ≤ 9223372036854775807 ∧ S ib := by
  obtain ⟨ib, ic, m, vo, vf, D, h, F, ok⟩ := h
  refine ⟨ib, ic, m, vo, vf, h.obj, ?_⟩
  rcases h.img.2 with ⟨e, _⟩ | ⟨g', cap, cur, e, _, _, h1, h2, _⟩
  · cases e
  · injection e with _ _ e3
    subst e3
    unfold maxLen at h2
    exact ⟨h1, by omega, F.ib⟩
/-- What the walk asks of a disk's cells. -/
theorem obj_cells {w : World} {g : Nat} {a b c d : Value} (h : w.heap[g]? = some (.cells #[a, b, c, d] 70 (0, 0))) :
    w.cell? ⟨g, 0, none⟩ = some a ∧ w.cell? ⟨g, 1, none⟩ = some b ∧ w.cell? ⟨g, 2, none⟩ = some c ∧ w.cell? ⟨g, 3, none⟩ = some d ∧ w.frozen? ⟨g, 1, none⟩ = false ∧ w.frozen? ⟨g, 2, none⟩ = false ∧ w.frozen? ⟨g, 3, none⟩ = false := by
  refine ⟨?_, ?_, ?_, ?_, by simp [World.frozen?, h], by simp [World.frozen?, h], by simp [World.frozen?, h]⟩ <;> (rw [cell_of_row _ _ _ _ _ _ h]; rfl)
end Go.Proofs.Ytmfcckmcbmlhmaa
