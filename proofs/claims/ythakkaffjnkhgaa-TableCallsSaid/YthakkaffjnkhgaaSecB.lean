/-
  Disks in memory: which blocks a disk is (Dsk), what a call of one may change (Trn), sectors as whole arrays (rowE). Conditions: none.
-/
import Derived.Test.YthakkaffjnkhgaaSecA
import Derived.Deep.WholeRow
namespace Go.Proofs.Ythakkaffjnkhgaa
open Go.RowKit Go.Maps
set_option maxRecDepth 100000

/-! What may have turned: the blocks of S, and new ones. -/
structure Trn (S : Nat → Prop) (w w' : World) : Prop where
  os : w'.os = w.os
  tape : w'.tape = w.tape
  output : w'.output = w.output
  size : w.heap.size ≤ w'.heap.size
  block : ∀ k, k < w.heap.size → ¬ S k → w'.heap[k]? = w.heap[k]?
/-- S and all blocks that were made since. -/
def more (S : Nat → Prop) (w w' : World) : Nat → Prop := fun k => S k ∨ (w.heap.size ≤ k ∧ k < w'.heap.size)
theorem Trn.refl (S : Nat → Prop) (w : World) : Trn S w w := ⟨rfl, rfl, rfl, Nat.le_refl _, fun _ _ _ => rfl⟩
theorem Trn.trans {S T : Nat → Prop} {a b c : World} (h : Trn S a b) (k : Trn T b c) (hT : ∀ i, i < a.heap.size → T i → S i) : Trn S a c :=
  ⟨k.os.trans h.os, k.tape.trans h.tape, k.output.trans h.output, Nat.le_trans h.size k.size, fun i hi hs => (k.block i (Nat.lt_of_lt_of_le hi h.size) (fun ht => hs (hT i hi ht))).trans (h.block i hi hs)⟩
theorem Trn.wide {S T : Nat → Prop} {a b : World} (h : Trn S a b) (hT : ∀ i, S i → T i) : Trn T a b := ⟨h.os, h.tape, h.output, h.size, fun i hi hs => h.block i hi (fun k => hs (hT i k))⟩
theorem Trn.of_grown {S : Nat → Prop} {a b : World} {r : Option Nat} (h : a.grownBy b r) (hr : ∀ i, r = some i → S i) : Trn S a b :=
  ⟨h.os, h.tape, h.output, h.size, fun i hi hs => h.block i hi (fun e => hs (hr i e.symm))⟩
theorem Trn.of_below {S : Nat → Prop} {a b : World} (h : Below a.heap.size a b) : Trn S a b := ⟨h.os, h.tape, h.output, h.size, fun i hi _ => h.block i hi⟩
theorem Trn.below {S : Nat → Prop} {a b : World} {B : Nat} (h : Trn S a b) (hB : B ≤ a.heap.size) (hS : ∀ i, S i → B ≤ i) : Below B a b := ⟨h.os, h.tape, h.output, h.size, fun i hi => h.block i (by omega) (fun hs => by have := hS i hs; omega)⟩
theorem Trn.alloc {S : Nat → Prop} {a b : World} (h : Trn S a b) (o : Obj) : Trn S a (b.alloc o) := h.trans (T := fun _ => False) (Trn.of_below (below_new b o)) (fun _ _ f => f.elim)
theorem Trn.setCell {S : Nat → Prop} {a b : World} (h : Trn S a b) {g k : Nat} (v : Value) (hg : g < a.heap.size → S g) : Trn S a (b.setCell ⟨g, k, none⟩ v) :=
  ⟨h.os, h.tape, h.output, by simpa [World.setCell] using h.size, fun i hi hs => (Below.heap_setCell _ _ _ _ (by rintro rfl; exact hs (hg hi))).trans (h.block i hi hs)⟩
theorem Trn.more {S : Nat → Prop} {a b c : World} (h : Trn S a b) (k : Trn (more S a b) b c) : Trn S a c := h.trans k (fun i hi hs => hs.elim id (fun h => by omega))

/-! Sectors by value. -/
def unbyc : List Value → Option (List UInt8)
  | [] => some []
  | .int .u8 x :: r => if 0 ≤ x ∧ x ≤ 255 then (unbyc r).map (UInt8.ofNat x.toNat :: ·) else none
  | _ => none
theorem unbyc_byc (l : List UInt8) : unbyc (byc l) = some l := by
  induction l with
  | nil => rfl
  | cons x l ih =>
    show unbyc (.int .u8 (x.toNat : Int) :: byc l) = _
    have hx : x.toNat < 256 := x.toNat_lt
    unfold unbyc
    rw [if_pos (by omega), ih]
    simp
theorem unbyc_inv : ∀ (cs : List Value) (l : List UInt8), unbyc cs = some l → cs = byc l := by
  intro cs
  induction cs with
  | nil => intro l h; cases h; rfl
  | cons v cs ih =>
    intro l h
    unfold unbyc at h
    split at h
    · rename_i heq; cases heq
    · rename_i x r heq
      injection heq with e1 e2
      subst e1 e2
      split at h
      · rename_i hx
        cases hu : unbyc cs with
        | none => rw [hu] at h; cases h
        | some m =>
          rw [hu] at h
          simp at h
          subst h
          rw [ih m hu]
          show _ = Value.int .u8 (((UInt8.ofNat x.toNat).toNat : Nat) : Int) :: byc m
          rw [UInt8.toNat_ofNat']
          congr 2
          omega
      · cases h
    · cases h
/-- How a sector in the cache reads. -/
def rowE (v : Value) : Option (DataW Unit × List MemPlace) :=
  match v with
  | .agg cs => match unbyc cs.toList with
    | some l => if l.length = 512 then some (.lit (.string l), []) else none
    | none => none
  | _ => none
theorem rowE_mk (l : List UInt8) (hl : l.length = 512) : rowE (.agg (byc l).toArray) = some (.lit (.string l), []) := by
  simp [rowE, unbyc_byc, hl]
theorem rowE_inv {v : Value} {d : DataW Unit} {ps : List MemPlace} (h : rowE v = some (d, ps)) : ∃ l, l.length = 512 ∧ v = .agg (byc l).toArray ∧ d = .lit (.string l) := by
  unfold rowE at h
  split at h
  · rename_i cs
    split at h
    · rename_i l hu
      split at h
      · rename_i hl
        simp at h
        refine ⟨l, hl, ?_, h.1.symm⟩
        rw [← unbyc_inv _ _ hu]
      · cases h
    · cases h
  · cases h
theorem byc_inj {l m : List UInt8} (h : byc l = byc m) : l = m := by
  have := unbyc_byc l
  rw [h, unbyc_byc] at this
  injection this with e
  exact e.symm
theorem byc_take (l : List UInt8) (k : Nat) : byc (l.take k) = (byc l).take k := by simp [byc]
theorem byc_drop (l : List UInt8) (k : Nat) : byc (l.drop k) = (byc l).drop k := by simp [byc]
theorem byc_splice (l m : List UInt8) (k : Nat) : byc (splice l k m) = splice (byc l) k (byc m) := by simp [splice, byc]
def zero512 : List UInt8 := List.replicate 512 0
theorem zero512_len : zero512.length = 512 := List.length_replicate
theorem intKeyed : Keyed Try.prog 3 := int_keyed Try.underlying3

section
variable {ops : Array Oper} {rest : List Oper} {o : Oper} {a : Act} {w : World} {K : Act → World → Prop} {Q : Exit → Act → World → Prop}
end

/-! The cache's map. -/
def keyL (n : Nat) : Lit := .int .i64 (n : Int)
theorem keyL_ne {a b : Nat} (h : a ≠ b) : keyL a ≠ keyL b := by
  intro e
  injection e with _ e
  omega
theorem keyL_wf {n : Nat} (h : n ≤ 9223372036854775807) : (keyL n).wf = true := by
  simp [keyL, Lit.wf, IntKind.min, IntKind.max, IntKind.signed, IntKind.bits]; omega
def zrow : DataW Unit := .lit (.string zero512)
structure Fits (D : DataW Unit) (C : Cch) : Prop where
  size : Maps.size D = C.length
  hit : ∀ n l, lookC C n = some l → Maps.has D (keyL n) = true ∧ D.atKey (keyL n) zrow = .lit (.string l)
  miss : ∀ n, lookC C n = none → Maps.has D (keyL n) = false
theorem Fits.nil : Fits (.map []) [] := ⟨rfl, fun n l h => (by cases h), fun n _ => rfl⟩
theorem Fits.put {D : DataW Unit} {C : Cch} (h : Fits D C) (hD : Tidy D) (n : Nat) (l : List UInt8) : Fits (D.put (keyL n) (.lit (.string l))) (putC C n l) := by
  have hk : WideAt.IsKeyLit (keyL n) := trivial
  refine ⟨?_, fun m x hx => ?_, fun m hm => ?_⟩
  · cases hl : lookC C n with
    | some x => rw [put_len_has l hl, ← h.size, size_put hD]; rw [(h.hit n x hl).1]; rfl
    | none => rw [put_new l hl, List.length_append, ← h.size, size_put hD]; rw [h.miss n hl]; rfl
  · rw [lookC_put] at hx
    by_cases e : n = m
    · subst e
      rw [if_pos rfl] at hx
      injection hx with hx
      subst hx
      exact ⟨has_put_same hD.isMap hk _, atKey_put_same hD.isMap hk _ _⟩
    · rw [if_neg e] at hx
      have := h.hit m x hx
      exact ⟨by rw [has_put_other (keyL_ne (Ne.symm e))]; exact this.1, by rw [atKey_put_other (keyL_ne (Ne.symm e))]; exact this.2⟩
  · rw [lookC_put] at hm
    by_cases e : n = m
    · rw [if_pos e] at hm; cases hm
    · rw [if_neg e] at hm
      rw [has_put_other (keyL_ne (Ne.symm e))]
      exact h.miss m hm

/-! Disks. -/
def inz (l : List Nat) : List Value := l.map fun (n : Nat) => Value.int .i64 (n : Int)
theorem inz_len (l : List Nat) : (inz l).length = l.length := by simp [inz]
/-- The fault's counter. -/
def Flt (w : World) (vf : Value) (F : Option Nat) : Prop :=
  (vf = .pointer none ∧ F = none) ∨ ∃ f n, vf = .pointer (some ⟨f, 0, none⟩) ∧ F = some n ∧ w.heap[f]? = some (.cells #[.int .i64 (n : Int)] 3 (0, 0))
def ptrBlock : Value → Option Nat
  | .pointer (some a) => some a.block
  | _ => none
structure Foot (S : Nat → Prop) (w : World) (g ib m : Nat) (vo vf : Value) : Prop where
  g : S g
  ib : S ib
  m : S m
  o : ∀ k, vo.ownBlock = some k → S k
  f : ∀ k, ptrBlock vf = some k → S k
  lt : ∀ k, S k → k < w.heap.size
theorem ownsRow_block {w : World} {e : TypeId} {v : Value} {n k : Nat} {xs : List Value} (h : w.ownsRow 0 e 1 v n xs) (hk : v.ownBlock = some k) : ∃ cur, w.heap[k]? = some (.cells cur e (0, 0)) := by
  rcases h.2 with ⟨rfl, _⟩ | ⟨g, cap, cur, rfl, _, hg, _⟩
  · cases hk
  · simp [Value.ownBlock] at hk
    subst hk
    exact ⟨cur, hg⟩
theorem ownsRow_same {w w' : World} {e : TypeId} {v : Value} {n : Nat} {xs : List Value} (h : w.ownsRow 0 e 1 v n xs) (hb : ∀ k, v.ownBlock = some k → w'.heap[k]? = w.heap[k]?) : w'.ownsRow 0 e 1 v n xs := by
  refine ⟨h.1, ?_⟩
  rcases h.2 with ⟨rfl, h0⟩ | ⟨g, cap, cur, rfl, hle, hg, r⟩
  · exact .inl ⟨rfl, h0⟩
  · exact .inr ⟨g, cap, cur, rfl, hle, (hb g rfl).trans hg, r⟩
theorem ownsMap_same {w w' : World} {m n : Nat} {D : DataW Unit} (h : w.ownsMap Try.prog 3 rowE m n D) (hb : w'.heap[m]? = w.heap[m]?) : w'.ownsMap Try.prog 3 rowE m n D := by
  obtain ⟨es, clock, h1, r⟩ := h
  exact ⟨es, clock, hb.trans h1, r⟩
theorem Flt.same {w w' : World} {vf : Value} {F : Option Nat} (h : Flt w vf F) (hb : ∀ k, ptrBlock vf = some k → w'.heap[k]? = w.heap[k]?) : Flt w' vf F := by
  rcases h with h | ⟨f, n, rfl, rfl, h⟩
  · exact .inl h
  · exact .inr ⟨f, n, rfl, rfl, (hb f rfl).trans h⟩
end Go.Proofs.Ythakkaffjnkhgaa
