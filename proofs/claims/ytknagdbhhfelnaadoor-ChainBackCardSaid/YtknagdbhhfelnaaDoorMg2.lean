/-
  The texts SecA, SecB, SecC, SecD, SecE, SecF, SecG, SecH, SecI in one. Conditions: as each part says.
-/
import Derived.Test.YtknagdbhhfelnaaDoorMg0
import Derived.Laws.CopyOwn
import Derived.Maps.OwnSet
import Derived.Deep.WholeRow
import Derived.Lib.SliceRun
/-
  A disk of sectors as plain lists: the disk's bytes, the cache in its order, how many operations till the fault. Conditions: none.
-/
namespace Go.Proofs.YtknagdbhhfelnaaDoor
open Go.RowKit
set_option maxRecDepth 100000

abbrev Cch := List (Nat × List UInt8)
def lookC : Cch → Nat → Option (List UInt8)
  | [], _ => none
  | (m, l) :: C, n => if m = n then some l else lookC C n
def putC : Cch → Nat → List UInt8 → Cch
  | [], n, l => [(n, l)]
  | (m, x) :: C, n, l => if m = n then (m, l) :: C else (m, x) :: putC C n l
def keysC (C : Cch) : List Nat := C.map Prod.fst
theorem keysC_len (C : Cch) : (keysC C).length = C.length := by simp [keysC]

theorem lookC_put (C : Cch) (n m : Nat) (l : List UInt8) : lookC (putC C n l) m = if n = m then some l else lookC C m := by
  induction C with
  | nil => rfl
  | cons x C ih =>
    obtain ⟨a, y⟩ := x
    unfold putC
    by_cases h : a = n
    · subst h
      rw [if_pos rfl]
      simp only [lookC]
      split <;> rfl
    · rw [if_neg h]
      simp only [lookC]
      rw [ih]
      by_cases h2 : a = m
      · subst h2
        rw [if_pos rfl, if_neg (fun e => h e.symm)]
        simp
      · rw [if_neg h2, if_neg h2]
theorem put_has {C : Cch} {n : Nat} (l : List UInt8) {x : List UInt8} (h : lookC C n = some x) : keysC (putC C n l) = keysC C := by
  induction C with
  | nil => cases h
  | cons y C ih =>
    obtain ⟨a, z⟩ := y
    unfold putC
    unfold lookC at h
    by_cases ha : a = n
    · rw [if_pos ha]; rfl
    · rw [if_neg ha]
      rw [if_neg ha] at h
      show a :: keysC (putC C n l) = a :: keysC C
      rw [ih h]
theorem put_new {C : Cch} {n : Nat} (l : List UInt8) (h : lookC C n = none) : putC C n l = C ++ [(n, l)] := by
  induction C with
  | nil => rfl
  | cons y C ih =>
    obtain ⟨a, z⟩ := y
    unfold putC
    unfold lookC at h
    by_cases ha : a = n
    · rw [if_pos ha] at h; cases h
    · rw [if_neg ha] at h ⊢
      rw [ih h]; rfl
theorem put_len_has {C : Cch} {n : Nat} (l : List UInt8) {x : List UInt8} (h : lookC C n = some x) : (putC C n l).length = C.length := by
  rw [← keysC_len, put_has l h, keysC_len]
theorem lookC_none {C : Cch} {n : Nat} (h : lookC C n = none) : n ∉ keysC C := by
  induction C with
  | nil => simp [keysC]
  | cons y C ih =>
    obtain ⟨a, z⟩ := y
    unfold lookC at h
    by_cases ha : a = n
    · rw [if_pos ha] at h; cases h
    · rw [if_neg ha] at h
      intro hm
      rcases List.mem_cons.1 hm with e | e
      · exact ha e.symm
      · exact ih h e
theorem lookC_at {C : Cch} (hd : (keysC C).Nodup) (i : Nat) (hi : i < C.length) : lookC C C[i].1 = some C[i].2 := by
  induction C generalizing i with
  | nil => simp at hi
  | cons y C ih =>
    obtain ⟨a, z⟩ := y
    have hd' : a ∉ keysC C ∧ (keysC C).Nodup := List.nodup_cons.1 hd
    cases i with
    | zero => simp [lookC]
    | succ i =>
      have hi' : i < C.length := by simpa using hi
      have hmem : C[i].1 ∈ keysC C := List.mem_map_of_mem (List.getElem_mem hi')
      show lookC ((a, z) :: C) C[i].1 = some C[i].2
      unfold lookC
      rw [if_neg (fun e : a = C[i].1 => hd'.1 (e ▸ hmem))]
      exact ih hd'.2 i hi'
theorem put_nodup {C : Cch} {n : Nat} {l : List UInt8} (hd : (keysC C).Nodup) : (keysC (putC C n l)).Nodup := by
  cases h : lookC C n with
  | some x => rw [put_has l h]; exact hd
  | none =>
    rw [put_new l h]
    show (List.map Prod.fst (C ++ [(n, l)])).Nodup
    rw [List.map_append]
    rw [List.nodup_append]
    refine ⟨hd, by simp, ?_⟩
    intro a ha b hb
    simp at hb
    subst hb
    rintro rfl
    exact lookC_none h ha
def RowsC (k : Nat) (C : Cch) : Prop := ∀ x ∈ C, x.1 < k ∧ x.2.length = 512
theorem put_rows {C : Cch} {k n : Nat} {l : List UInt8} (h : RowsC k C) (hn : n < k) (hl : l.length = 512) : RowsC k (putC C n l) := by
  induction C with
  | nil =>
    intro x hx
    simp [putC] at hx
    subst hx
    exact ⟨hn, hl⟩
  | cons y C ih =>
    obtain ⟨a, z⟩ := y
    have h' : RowsC k C := fun x hx => h x (List.mem_cons_of_mem _ hx)
    have ha := h (a, z) (List.mem_cons_self ..)
    unfold putC
    by_cases hc : a = n
    · rw [if_pos hc]
      intro x hx
      rcases List.mem_cons.1 hx with rfl | e
      · exact ⟨ha.1, hl⟩
      · exact h' x e
    · rw [if_neg hc]
      intro x hx
      rcases List.mem_cons.1 hx with rfl | e
      · exact ha
      · exact ih h' x e
theorem look_row {C : Cch} {k n : Nat} {l : List UInt8} (h : RowsC k C) (hl : lookC C n = some l) : l.length = 512 := by
  induction C with
  | nil => cases hl
  | cons y C ih =>
    obtain ⟨a, z⟩ := y
    unfold lookC at hl
    by_cases ha : a = n
    · rw [if_pos ha] at hl
      injection hl with e
      exact e ▸ (h _ (List.mem_cons_self ..)).2
    · rw [if_neg ha] at hl
      exact ih (fun x hx => h x (List.mem_cons_of_mem _ hx)) hl
theorem nodup_le {k : Nat} : ∀ {l : List Nat}, l.Nodup → (∀ x ∈ l, x < k) → l.length ≤ k := by
  induction k with
  | zero =>
    intro l _ h
    cases l with
    | nil => simp
    | cons x l => exact absurd (h x (List.mem_cons_self ..)) (by omega)
  | succ k ih =>
    intro l hd h
    have h1 : (l.erase k).length ≤ k := ih (hd.erase k) (fun x hx => by
      have := (List.Nodup.mem_erase_iff hd).1 hx
      have := h x this.2
      omega)
    have h2 := List.length_erase (a := k) (l := l)
    split at h2 <;> omega

/-! The disk. -/
structure St where
  B : List UInt8
  C : Cch
  F : Option Nat
def secs (s : St) : Nat := s.B.length / 512
structure OkSt (s : St) : Prop where
  whole : s.B.length = 512 * secs s
  some_ : 0 < secs s
  few : secs s ≤ 32768
  rows : RowsC (secs s) s.C
  once : (keysC s.C).Nodup
  fuse : ∀ n, s.F = some n → n ≤ 9223372036854775807
theorem OkSt.cnt {s : St} (h : OkSt s) : s.C.length ≤ 32768 := by
  have := nodup_le h.once (k := secs s) (fun x hx => by
    obtain ⟨y, hy, rfl⟩ := List.mem_map.1 hx
    exact (h.rows y hy).1)
  rw [keysC_len] at this
  have := h.few
  omega
def blows : Option Nat → Bool
  | some 0 => true
  | _ => false
def tickF : Option Nat → Option Nat
  | some (n + 1) => some n
  | _ => none
def tick (s : St) : St := { s with F := tickF s.F }
theorem secs_tick (s : St) : secs (tick s) = secs s := rfl
theorem OkSt.tick {s : St} (h : OkSt s) : OkSt (tick s) := by
  refine ⟨h.whole, h.some_, h.few, h.rows, h.once, fun n hn => ?_⟩
  cases hF : s.F with
  | none => simp [Go.Proofs.YtknagdbhhfelnaaDoor.tick, tickF, hF] at hn
  | some k =>
    cases k with
    | zero => simp [Go.Proofs.YtknagdbhhfelnaaDoor.tick, tickF, hF] at hn
    | succ k =>
      simp [Go.Proofs.YtknagdbhhfelnaaDoor.tick, tickF, hF] at hn
      have := h.fuse _ hF
      omega
def sectB (B : List UInt8) (n : Nat) : List UInt8 := (B.drop (512 * n)).take 512
theorem sectB_len {B : List UInt8} {n : Nat} (h : 512 * (n + 1) ≤ B.length) : (sectB B n).length = 512 := by
  unfold sectB
  rw [List.length_take, List.length_drop]
  omega
def readB (s : St) (n : Nat) : List UInt8 := (lookC s.C n).getD (sectB s.B n)
theorem readB_len {s : St} (h : OkSt s) {n : Nat} (hn : n < secs s) : (readB s n).length = 512 := by
  unfold readB
  cases hl : lookC s.C n with
  | some l => exact look_row h.rows hl
  | none => exact sectB_len (by have := h.whole; omega)
def writeS (s : St) (n : Nat) (l : List UInt8) : St := { s with C := putC s.C n l }
theorem OkSt.write {s : St} (h : OkSt s) {n : Nat} {l : List UInt8} (hn : n < secs s) (hl : l.length = 512) : OkSt (writeS s n l) :=
  ⟨h.whole, h.some_, h.few, put_rows h.rows hn hl, put_nodup h.once, h.fuse⟩
/-- The disk's bytes, the first k of the cache laid over them, f of each. -/
def settleTo (f : Nat → Nat) (B : List UInt8) (C : Cch) : Nat → List UInt8
  | 0 => B
  | k + 1 => splice (settleTo f B C k) (512 * (C.getD k (0, [])).1) ((C.getD k (0, [])).2.take (f k))
theorem getD_at (C : Cch) (k : Nat) (hk : k < C.length) : C.getD k (0, []) = C[k] := by simp [hk]
theorem settleTo_len (f : Nat → Nat) (B : List UInt8) (C : Cch) (m : Nat) (hB : B.length = 512 * m) (hC : RowsC m C) : ∀ k, k ≤ C.length → (settleTo f B C k).length = B.length := by
  intro k
  induction k with
  | zero => intro _; rfl
  | succ k ih =>
    intro hk
    have hr := hC _ (List.getElem_mem (show k < C.length by omega))
    show (splice _ _ _).length = _
    rw [getD_at C k (by omega), length_splice _ _ _ (by rw [ih (by omega), List.length_take]; omega)]
    exact ih (by omega)
def settleS (f : Nat → Nat) (s : St) : St := { s with B := settleTo f s.B s.C s.C.length, C := [] }
theorem settleS_len {s : St} (f : Nat → Nat) (h : OkSt s) : (settleS f s).B.length = s.B.length := settleTo_len f s.B s.C _ h.whole h.rows _ (Nat.le_refl _)
theorem secs_settle {s : St} (f : Nat → Nat) (h : OkSt s) : secs (settleS f s) = secs s := by unfold secs; rw [settleS_len f h]
theorem OkSt.settle {s : St} (f : Nat → Nat) (h : OkSt s) : OkSt (settleS f s) :=
  ⟨by rw [settleS_len f h, secs_settle f h]; exact h.whole, by rw [secs_settle f h]; exact h.some_, by rw [secs_settle f h]; exact h.few, fun x hx => (by cases hx), List.nodup_nil, h.fuse⟩
def failS (s : St) (a : Int) : St := { s with F := if a < 0 then none else some a.toNat }
theorem OkSt.fail {s : St} (h : OkSt s) {a : Int} (ha : a ≤ 9223372036854775807) : OkSt (failS s a) := by
  refine ⟨h.whole, h.some_, h.few, h.rows, h.once, fun n hn => ?_⟩
  simp only [failS] at hn
  split at hn
  · cases hn
  · injection hn with e; omega
/-- How many first bytes a crash keeps at a place. -/
def keptN (keep : List Bool) (torn bytes : Int) (k : Nat) : Nat := if (k : Int) = torn ∧ 0 ≤ bytes ∧ bytes ≤ 512 then bytes.toNat else if keep.getD k false then 512 else 0
theorem keptN_le (keep : List Bool) (torn bytes : Int) (k : Nat) : keptN keep torn bytes k ≤ 512 := by
  unfold keptN
  split
  · omega
  · split <;> omega
def crashS (s : St) (keep : List Bool) (torn bytes : Int) : St := { settleS (keptN keep torn bytes) s with F := none }
theorem OkSt.crash {s : St} (h : OkSt s) (keep : List Bool) (torn bytes : Int) : OkSt (crashS s keep torn bytes) :=
  have k := h.settle (keptN keep torn bytes)
  ⟨k.whole, k.some_, k.few, k.rows, k.once, fun n hn => by cases hn⟩
def newS (n : Nat) : St := ⟨List.replicate (512 * n) 0, [], none⟩
theorem secs_new (n : Nat) : secs (newS n) = n := by simp [secs, newS]
theorem OkSt.new {n : Nat} (h0 : 0 < n) (h1 : n ≤ 32768) : OkSt (newS n) :=
  ⟨by rw [secs_new]; simp [newS], by rw [secs_new]; exact h0, by rw [secs_new]; exact h1, fun x hx => (by cases hx), List.nodup_nil, fun n hn => by cases hn⟩
def ofS (b : List UInt8) : St := ⟨b, [], none⟩
theorem OkSt.of {b : List UInt8} (h0 : 0 < b.length) (h1 : b.length % 512 = 0) (h2 : b.length ≤ 16777216) : OkSt (ofS b) :=
  ⟨by unfold secs; show b.length = 512 * (b.length / 512); omega, by unfold secs; show 0 < b.length / 512; omega, by unfold secs; show b.length / 512 ≤ 32768; omega, fun x hx => (by cases hx), List.nodup_nil, fun n hn => by cases hn⟩
end Go.Proofs.YtknagdbhhfelnaaDoor

/-
  Disks in memory: which blocks a disk is (Dsk), what a call of one may change (Trn), sectors as whole arrays (rowE). Conditions: none.
-/
namespace Go.Proofs.YtknagdbhhfelnaaDoor
open Go.RowKit Go.Maps
set_option maxRecDepth 100000

/-! What may have turned: the blocks of S, and new ones. -/
structure Trn (S : Nat → Prop) (w w' : World) : Prop where
  os : w'.os = w.os
  tape : w'.tape = w.tape
  output : w'.output = w.output
  size : w.heap.size ≤ w'.heap.size
  block : ∀ k, k < w.heap.size → ¬ S k → w'.heap[k]? = w.heap[k]?
/-- S and all blocks that were made since. -/
def more (S : Nat → Prop) (w w' : World) : Nat → Prop := fun k => S k ∨ (w.heap.size ≤ k ∧ k < w'.heap.size)
theorem Trn.refl (S : Nat → Prop) (w : World) : Trn S w w := ⟨rfl, rfl, rfl, Nat.le_refl _, fun _ _ _ => rfl⟩
theorem Trn.trans {S T : Nat → Prop} {a b c : World} (h : Trn S a b) (k : Trn T b c) (hT : ∀ i, i < a.heap.size → T i → S i) : Trn S a c :=
  ⟨k.os.trans h.os, k.tape.trans h.tape, k.output.trans h.output, Nat.le_trans h.size k.size, fun i hi hs => (k.block i (Nat.lt_of_lt_of_le hi h.size) (fun ht => hs (hT i hi ht))).trans (h.block i hi hs)⟩
theorem Trn.wide {S T : Nat → Prop} {a b : World} (h : Trn S a b) (hT : ∀ i, S i → T i) : Trn T a b := ⟨h.os, h.tape, h.output, h.size, fun i hi hs => h.block i hi (fun k => hs (hT i k))⟩
theorem Trn.of_grown {S : Nat → Prop} {a b : World} {r : Option Nat} (h : a.grownBy b r) (hr : ∀ i, r = some i → S i) : Trn S a b :=
  ⟨h.os, h.tape, h.output, h.size, fun i hi hs => h.block i hi (fun e => hs (hr i e.symm))⟩
theorem Trn.of_below {S : Nat → Prop} {a b : World} (h : Below a.heap.size a b) : Trn S a b := ⟨h.os, h.tape, h.output, h.size, fun i hi _ => h.block i hi⟩
theorem Trn.below {S : Nat → Prop} {a b : World} {B : Nat} (h : Trn S a b) (hB : B ≤ a.heap.size) (hS : ∀ i, S i → B ≤ i) : Below B a b := ⟨h.os, h.tape, h.output, h.size, fun i hi => h.block i (by omega) (fun hs => by have := hS i hs; omega)⟩
theorem Trn.alloc {S : Nat → Prop} {a b : World} (h : Trn S a b) (o : Obj) : Trn S a (b.alloc o) := h.trans (T := fun _ => False) (Trn.of_below (below_new b o)) (fun _ _ f => f.elim)
theorem Trn.setCell {S : Nat → Prop} {a b : World} (h : Trn S a b) {g k : Nat} (v : Value) (hg : g < a.heap.size → S g) : Trn S a (b.setCell ⟨g, k, none⟩ v) :=
  ⟨h.os, h.tape, h.output, by simpa [World.setCell] using h.size, fun i hi hs => (Below.heap_setCell _ _ _ _ (by rintro rfl; exact hs (hg hi))).trans (h.block i hi hs)⟩
theorem Trn.more {S : Nat → Prop} {a b c : World} (h : Trn S a b) (k : Trn (more S a b) b c) : Trn S a c := h.trans k (fun i hi hs => hs.elim id (fun h => by omega))

/-! Sectors by value. -/
def unbyc : List Value → Option (List UInt8)
  | [] => some []
  | .int .u8 x :: r => if 0 ≤ x ∧ x ≤ 255 then (unbyc r).map (UInt8.ofNat x.toNat :: ·) else none
  | _ => none
theorem unbyc_byc (l : List UInt8) : unbyc (byc l) = some l := by
  induction l with
  | nil => rfl
  | cons x l ih =>
    show unbyc (.int .u8 (x.toNat : Int) :: byc l) = _
    have hx : x.toNat < 256 := x.toNat_lt
    unfold unbyc
    rw [if_pos (by omega), ih]
    simp
theorem unbyc_inv : ∀ (cs : List Value) (l : List UInt8), unbyc cs = some l → cs = byc l := by
  intro cs
  induction cs with
  | nil => intro l h; cases h; rfl
  | cons v cs ih =>
    intro l h
    unfold unbyc at h
    split at h
    · rename_i heq; cases heq
    · rename_i x r heq
      injection heq with e1 e2
      subst e1 e2
      split at h
      · rename_i hx
        cases hu : unbyc cs with
        | none => rw [hu] at h; cases h
        | some m =>
          rw [hu] at h
          simp at h
          subst h
          rw [ih m hu]
          show _ = Value.int .u8 (((UInt8.ofNat x.toNat).toNat : Nat) : Int) :: byc m
          rw [UInt8.toNat_ofNat']
          congr 2
          omega
      · cases h
    · cases h
/-- How a sector in the cache reads. -/
def rowE (v : Value) : Option (DataW Unit × List MemPlace) :=
  match v with
  | .agg cs => match unbyc cs.toList with
    | some l => if l.length = 512 then some (.lit (.string l), []) else none
    | none => none
  | _ => none
theorem rowE_mk (l : List UInt8) (hl : l.length = 512) : rowE (.agg (byc l).toArray) = some (.lit (.string l), []) := by
  simp [rowE, unbyc_byc, hl]
theorem rowE_inv {v : Value} {d : DataW Unit} {ps : List MemPlace} (h : rowE v = some (d, ps)) : ∃ l, l.length = 512 ∧ v = .agg (byc l).toArray ∧ d = .lit (.string l) := by
  unfold rowE at h
  split at h
  · rename_i cs
    split at h
    · rename_i l hu
      split at h
      · rename_i hl
        simp at h
        refine ⟨l, hl, ?_, h.1.symm⟩
        rw [← unbyc_inv _ _ hu]
      · cases h
    · cases h
  · cases h
theorem byc_inj {l m : List UInt8} (h : byc l = byc m) : l = m := by
  have := unbyc_byc l
  rw [h, unbyc_byc] at this
  injection this with e
  exact e.symm
theorem byc_take (l : List UInt8) (k : Nat) : byc (l.take k) = (byc l).take k := by simp [byc]
theorem byc_drop (l : List UInt8) (k : Nat) : byc (l.drop k) = (byc l).drop k := by simp [byc]
theorem byc_splice (l m : List UInt8) (k : Nat) : byc (splice l k m) = splice (byc l) k (byc m) := by simp [splice, byc]
def zero512 : List UInt8 := List.replicate 512 0
theorem zero512_len : zero512.length = 512 := List.length_replicate
theorem rowInfo : (Tryd.prog.info? 149).map (fun i => (i.zero, i.size)) = some (some (.agg (byc zero512).toArray), 512) := by kernel_rfl
theorem rowZero : ∀ w, (zeroValue 149).run Tryd.prog w = .ok (.agg (byc zero512).toArray) w := (zero_of_info rowInfo).1
theorem rowSize : (Tryd.prog.info? 149).map (·.size) = some 512 := (zero_of_info rowInfo).2
theorem rowUnder : Tryd.prog.underlying 149 = some (.array 512 5) := by kernel_rfl
theorem intKeyed : Keyed Tryd.prog 3 := int_keyed Tryd.underlying3

/-- Block g is this sector, as a variable. -/
def ARow (w : World) (g : Nat) (l : List UInt8) : Prop := w.heap[g]? = some (.cells (byc l).toArray 149)
theorem ARow.byt {w : World} {g : Nat} {l : List UInt8} (h : ARow w g l) (hl : l.length = 512) : Byt w (.slice (some ⟨g, 0, none⟩) 512 512) l := by
  refine ⟨_, 512, by rw [hl], by omega, by simp [maxLen], .inr ⟨g, 0, rfl, (Array.getElem?_eq_some_iff.1 h).1, fun j hj => ?_⟩⟩
  rw [Nat.zero_add, cell_of_row _ _ _ _ _ _ h]
  simp [byc, hj]
section
variable {ops : Array Oper} {rest : List Oper} {o : Oper} {a : Act} {w : World} {K : Act → World → Prop} {Q : Exit → Act → World → Prop}
/-- A sector into a variable that was just made. -/
theorem wpList_storeRow {w1 : World} (t u : List UInt8) (ht : t.length = 512) (hu : u.length = 512) (hgd : o.guard = none) (x y : Operand) (ho : o.op = .store 149 x y) (hx : a.eval x = .pointer (some ⟨w1.heap.size, 0, none⟩)) (hy : a.eval y = .agg (byc u).toArray)
    (hK : ∀ w', ARow w' w1.heap.size u → Below w1.heap.size w1 w' → w1.heap.size < w'.heap.size → wpList Tryd.prog ops Q rest (a.put o.dst undef) w') : wpList Tryd.prog ops Q (o :: rest) a (w1.alloc (.cells (byc t).toArray 149)) := by
  refine wpList_store_row hgd 149 x y ho w1.heap.size (byc u).toArray hx hy 149 (byc t).toArray (heap_alloc_new w1 _) (by rw [List.size_toArray, byc_len, hu]; exact rowSize) (by simp [byc_len, ht, hu]) (by
      rw [Array.all_eq_true_iff_forall_mem]
      intro x hx
      exact byc_one u x (by simpa using hx)) ?_
  rw [World.setRow_alloc_new]
  exact hK _ (heap_alloc_new w1 _) (below_new w1 _) (by simp)
/-- A sector out of a slice's bytes. -/
theorem load_sector {u : World} {b off : Nat} {l : List UInt8} (hl : l.length = 512) (hc : ∀ j (hj : j < l.length), u.cell? ⟨b, off + j, none⟩ = some (.int .u8 (l[j].toNat : Int))) :
    (loadVar 149 ⟨b, off, none⟩).run Tryd.prog u = .ok (.agg (byc l).toArray) u := by
  have h1 := run_loadCells_list (P := Tryd.prog) u ⟨b, off, none⟩ (byc l) (fun j v hv => by
    obtain ⟨hj, rfl⟩ := byc_get l j v hv
    rw [plainAdd]
    exact hc j hj)
  rw [byc_len, hl] at h1
  have hagg : (isAgg 149).run Tryd.prog u = .ok true u := by
    unfold isAgg
    rw [Sem.run_bind, run_underlying rowUnder u]
    rfl
  have hsz : (sizeOf 149).run Tryd.prog u = .ok 512 u := by
    have := rowSize
    cases hq : Tryd.prog.info? 149 with
    | none => simp [hq] at this
    | some i => simp [hq] at this; simp [sizeOf, typeInfo, hq, this]
  unfold loadVar
  simp only [Sem.run_bind, hagg, Result.andThen_ok, if_true, hsz, h1, Sem.run_pure]
theorem exec_loadSector {u : World} (x : Operand) (ho : o.op = .load 149 x) (b off : Nat) (hx : a.eval x = .pointer (some ⟨b, off, none⟩)) {l : List UInt8} (hl : l.length = 512) (hc : ∀ j (hj : j < l.length), u.cell? ⟨b, off + j, none⟩ = some (.int .u8 (l[j].toNat : Int))) :
    (execOp a.eval o).run Tryd.prog u = .ok (.value (.agg (byc l).toArray)) u := by
  unfold execOp
  simp only [ho, hx, Instr.loadAt, Instr.sureAddr, Sem.run_bind, Sem.run_pure, Result.andThen_ok, load_sector hl hc]
end

/-! The cache's map. -/
def keyL (n : Nat) : Lit := .int .i64 (n : Int)
theorem keyL_ne {a b : Nat} (h : a ≠ b) : keyL a ≠ keyL b := by
  intro e
  injection e with _ e
  omega
theorem keyL_wf {n : Nat} (h : n ≤ 9223372036854775807) : (keyL n).wf = true := by
  simp [keyL, Lit.wf, IntKind.min, IntKind.max, IntKind.signed, IntKind.bits]; omega
def zrow : DataW Unit := .lit (.string zero512)
structure Fits (D : DataW Unit) (C : Cch) : Prop where
  size : Maps.size D = C.length
  hit : ∀ n l, lookC C n = some l → Maps.has D (keyL n) = true ∧ D.atKey (keyL n) zrow = .lit (.string l)
  miss : ∀ n, lookC C n = none → Maps.has D (keyL n) = false
theorem Fits.nil : Fits (.map []) [] := ⟨rfl, fun n l h => (by cases h), fun n _ => rfl⟩
theorem Fits.put {D : DataW Unit} {C : Cch} (h : Fits D C) (hD : Tidy D) (n : Nat) (l : List UInt8) : Fits (D.put (keyL n) (.lit (.string l))) (putC C n l) := by
  have hk : WideAt.IsKeyLit (keyL n) := trivial
  refine ⟨?_, fun m x hx => ?_, fun m hm => ?_⟩
  · cases hl : lookC C n with
    | some x => rw [put_len_has l hl, ← h.size, size_put hD]; rw [(h.hit n x hl).1]; rfl
    | none => rw [put_new l hl, List.length_append, ← h.size, size_put hD]; rw [h.miss n hl]; rfl
  · rw [lookC_put] at hx
    by_cases e : n = m
    · subst e
      rw [if_pos rfl] at hx
      injection hx with hx
      subst hx
      exact ⟨has_put_same hD.isMap hk _, atKey_put_same hD.isMap hk _ _⟩
    · rw [if_neg e] at hx
      have := h.hit m x hx
      exact ⟨by rw [has_put_other (keyL_ne (Ne.symm e))]; exact this.1, by rw [atKey_put_other (keyL_ne (Ne.symm e))]; exact this.2⟩
  · rw [lookC_put] at hm
    by_cases e : n = m
    · rw [if_pos e] at hm; cases hm
    · rw [if_neg e] at hm
      rw [has_put_other (keyL_ne (Ne.symm e))]
      exact h.miss m hm

/-! Disks. -/
def inz (l : List Nat) : List Value := l.map fun (n : Nat) => Value.int .i64 (n : Int)
theorem inz_len (l : List Nat) : (inz l).length = l.length := by simp [inz]
/-- The fault's counter. -/
def Flt (w : World) (vf : Value) (F : Option Nat) : Prop :=
  (vf = .pointer none ∧ F = none) ∨ ∃ f n, vf = .pointer (some ⟨f, 0, none⟩) ∧ F = some n ∧ w.heap[f]? = some (.cells #[.int .i64 (n : Int)] 3 (0, 0))
def ptrBlock : Value → Option Nat
  | .pointer (some a) => some a.block
  | _ => none
structure DskAt (w : World) (g : Nat) (s : St) (ib ic m : Nat) (vo vf : Value) (D : DataW Unit) : Prop where
  obj : w.heap[g]? = some (.cells #[.slice (some ⟨ib, 0, none⟩) s.B.length ic, .map (some m), vo, vf] 107 (0, 0))
  img : Own w 0 5 (.slice (some ⟨ib, 0, none⟩) s.B.length ic) s.B
  mp : w.ownsMap Tryd.prog 3 rowE m s.C.length D
  fits : Fits D s.C
  ord : w.ownsRow 0 3 1 vo s.C.length (inz (keysC s.C))
  flt : Flt w vf s.F
  apart : ∀ f, ptrBlock vf = some f → vo.ownBlock ≠ some f
structure Foot (S : Nat → Prop) (w : World) (g ib m : Nat) (vo vf : Value) : Prop where
  g : S g
  ib : S ib
  m : S m
  o : ∀ k, vo.ownBlock = some k → S k
  f : ∀ k, ptrBlock vf = some k → S k
  lt : ∀ k, S k → k < w.heap.size
def Dsk (w : World) (S : Nat → Prop) (g : Nat) (s : St) : Prop := ∃ ib ic m vo vf D, DskAt w g s ib ic m vo vf D ∧ Foot S w g ib m vo vf ∧ OkSt s

theorem ownsRow_block {w : World} {e : TypeId} {v : Value} {n k : Nat} {xs : List Value} (h : w.ownsRow 0 e 1 v n xs) (hk : v.ownBlock = some k) : ∃ cur, w.heap[k]? = some (.cells cur e (0, 0)) := by
  rcases h.2 with ⟨rfl, _⟩ | ⟨g, cap, cur, rfl, _, hg, _⟩
  · cases hk
  · simp [Value.ownBlock] at hk
    subst hk
    exact ⟨cur, hg⟩
theorem ownsRow_same {w w' : World} {e : TypeId} {v : Value} {n : Nat} {xs : List Value} (h : w.ownsRow 0 e 1 v n xs) (hb : ∀ k, v.ownBlock = some k → w'.heap[k]? = w.heap[k]?) : w'.ownsRow 0 e 1 v n xs := by
  refine ⟨h.1, ?_⟩
  rcases h.2 with ⟨rfl, h0⟩ | ⟨g, cap, cur, rfl, hle, hg, r⟩
  · exact .inl ⟨rfl, h0⟩
  · exact .inr ⟨g, cap, cur, rfl, hle, (hb g rfl).trans hg, r⟩
theorem ownsMap_same {w w' : World} {m n : Nat} {D : DataW Unit} (h : w.ownsMap Tryd.prog 3 rowE m n D) (hb : w'.heap[m]? = w.heap[m]?) : w'.ownsMap Tryd.prog 3 rowE m n D := by
  obtain ⟨es, clock, h1, r⟩ := h
  exact ⟨es, clock, hb.trans h1, r⟩
theorem Flt.same {w w' : World} {vf : Value} {F : Option Nat} (h : Flt w vf F) (hb : ∀ k, ptrBlock vf = some k → w'.heap[k]? = w.heap[k]?) : Flt w' vf F := by
  rcases h with h | ⟨f, n, rfl, rfl, h⟩
  · exact .inl h
  · exact .inr ⟨f, n, rfl, rfl, (hb f rfl).trans h⟩
/-- A disk stays as it is while its blocks do. -/
theorem Dsk.same {w w' : World} {S : Nat → Prop} {g : Nat} {s : St} (h : Dsk w S g s) (hs : w.heap.size ≤ w'.heap.size) (hb : ∀ k, S k → w'.heap[k]? = w.heap[k]?) : Dsk w' S g s := by
  obtain ⟨ib, ic, m, vo, vf, D, h, F, ok⟩ := h
  refine ⟨ib, ic, m, vo, vf, D, ⟨(hb g F.g).trans h.obj, ownsRow_same h.img (fun k hk => hb k ?_), ownsMap_same h.mp (hb m F.m), h.fits, ownsRow_same h.ord (fun k hk => hb k (F.o k hk)), h.flt.same (fun k hk => hb k (F.f k hk)), h.apart⟩,
    ⟨F.g, F.ib, F.m, F.o, F.f, fun k hk => Nat.lt_of_lt_of_le (F.lt k hk) hs⟩, ok⟩
  simp [Value.ownBlock] at hk
  exact hk ▸ F.ib
theorem Dsk.trn {w w' : World} {S T : Nat → Prop} {g : Nat} {s : St} (h : Dsk w S g s) (ht : Trn T w w') (hST : ∀ k, S k → ¬ T k) : Dsk w' S g s := by
  have hlt : ∀ k, S k → k < w.heap.size := by
    obtain ⟨ib, ic, m, vo, vf, D, _, F, _⟩ := h
    exact F.lt
  exact h.same ht.size (fun k hk => ht.block k (hlt k hk) (hST k hk))
theorem Dsk.below {w w' : World} {S : Nat → Prop} {g : Nat} {s : St} (h : Dsk w S g s) (ht : Below w.heap.size w w') : Dsk w' S g s := h.trn (T := fun _ => False) (Trn.of_below ht) (fun _ _ f => f)
theorem Dsk.lt {w : World} {S : Nat → Prop} {g : Nat} {s : St} (h : Dsk w S g s) : ∀ k, S k → k < w.heap.size := by
  obtain ⟨ib, ic, m, vo, vf, D, _, F, _⟩ := h
  exact F.lt
theorem Dsk.ok {w : World} {S : Nat → Prop} {g : Nat} {s : St} (h : Dsk w S g s) : OkSt s := by
  obtain ⟨ib, ic, m, vo, vf, D, _, _, ok⟩ := h
  exact ok
theorem Dsk.wide {w : World} {S T : Nat → Prop} {g : Nat} {s : St} (h : Dsk w S g s) (hT : ∀ k, S k → T k) (hlt : ∀ k, T k → k < w.heap.size) : Dsk w T g s := by
  obtain ⟨ib, ic, m, vo, vf, D, h, F, ok⟩ := h
  exact ⟨ib, ic, m, vo, vf, D, h, ⟨hT _ F.g, hT _ F.ib, hT _ F.m, fun k hk => hT k (F.o k hk), fun k hk => hT k (F.f k hk), hlt⟩, ok⟩
theorem Dsk.obj {w : World} {S : Nat → Prop} {g : Nat} {s : St} (h : Dsk w S g s) :
    ∃ ib ic m vo vf, w.heap[g]? = some (.cells #[.slice (some ⟨ib, 0, none⟩) s.B.length ic, .map (some m), vo, vf] 107 (0, 0)) ∧ s.B.length ≤ ic ∧ ic ≤ 9223372036854775807 ∧ S ib := by
  obtain ⟨ib, ic, m, vo, vf, D, h, F, ok⟩ := h
  refine ⟨ib, ic, m, vo, vf, h.obj, ?_⟩
  rcases h.img.2 with ⟨e, _⟩ | ⟨g', cap, cur, e, _, _, h1, h2, _⟩
  · cases e
  · injection e with _ _ e3
    subst e3
    unfold maxLen at h2
    exact ⟨h1, by omega, F.ib⟩
/-- What the walk asks of a disk's cells. -/
theorem obj_cells {w : World} {g : Nat} {a b c d : Value} (h : w.heap[g]? = some (.cells #[a, b, c, d] 107 (0, 0))) :
    w.cell? ⟨g, 0, none⟩ = some a ∧ w.cell? ⟨g, 1, none⟩ = some b ∧ w.cell? ⟨g, 2, none⟩ = some c ∧ w.cell? ⟨g, 3, none⟩ = some d ∧ w.frozen? ⟨g, 1, none⟩ = false ∧ w.frozen? ⟨g, 2, none⟩ = false ∧ w.frozen? ⟨g, 3, none⟩ = false := by
  refine ⟨?_, ?_, ?_, ?_, by simp [World.frozen?, h], by simp [World.frozen?, h], by simp [World.frozen?, h]⟩ <;> (rw [cell_of_row _ _ _ _ _ _ h]; rfl)
end Go.Proofs.YtknagdbhhfelnaaDoor

/-
  Package sector's small functions by their contracts: Clone, disk, New, Of, made, Sectors, has, below, fails. Conditions: none but that the disk lies there.
-/
namespace Go.Proofs.YtknagdbhhfelnaaDoor
open Go.RowKit Go.Maps
set_option maxRecDepth 100000

set_option maxHeartbeats 400000 in
theorem cloneb_any (w : World) (v : Value) (l : List UInt8) (hv : Byt w v l) (hlen : l.length ≤ 70368744177664) :
    Calls Tryd.prog 40 #[v] w (Made w l) := by
  obtain ⟨i0, hi0, hz0, hz1, hz2⟩ := info_parts uinfo
  obtain ⟨A, n, c, rfl, N, hnc, hcm⟩ := hv.form
  have HX := Lib.hid hv
  have HE := Lib.hid (Own.empty w)
  cases A with
  | none =>
    obtain rfl : l = [] := by
      obtain ⟨A', c', e, _, _, h⟩ := hv
      rcases h with h | ⟨b, off, h, _⟩
      · exact h
      · subst h; cases e
    clear hv
    have E1 : ∀ W, (binOp .eql 27 (.slice none n c) (.slice none 0 0)).run Tryd.prog W = .ok (.bool true) W := fun W => Lib.run_eql_slice_nil W 27 5 none n c 0 0 Tryd.underlying27
    go_enter Tryd.func40, Tryd.ntmps40
    go_wp2_with fail
    go_ret
    exact made_mk (World.ownsRow_nil w _ _ 1) (Below.refl _ _)
  | some ad =>
    clear hv
    have E1 : ∀ W, (binOp .eql 27 (.slice (some ad) n c) (.slice none 0 0)).run Tryd.prog W = .ok (.bool false) W := fun W => Lib.run_eql_slice_nil W 27 5 (some ad) n c 0 0 Tryd.underlying27
    go_enter Tryd.func40, Tryd.ntmps40
    go_wp2_with (at_builtin; refine wpList_app _ rfl (.tmp 5) (.tmp 6) _ rfl w.heap.size 5 i0 _ Tryd.underlying27 hi0 hz0 hz1 hz2 rfl _ [] rfl HE.out _ l rfl (HX.out.alloc _) (by simp; omega) (by simp) ?_; intro v1 w1 hown1 hg1 hat1; have hb1 := below_own (below_new w _) (by simp) HE.out hg1)
    go_ret
    exact made_mk (by simpa using hown1) hb1

/-- Block g is a disk's, of these bytes: what 'made', 'has', 'Sectors', 'below' look at. -/
def DObj (w : World) (g ib ic m n : Nat) (vo vf : Value) : Prop := w.heap[g]? = some (.cells #[.slice (some ⟨ib, 0, none⟩) n ic, .map (some m), vo, vf] 107 (0, 0)) ∧ n ≤ ic ∧ ic ≤ 9223372036854775807

theorem made_is (w : World) (g ib ic m n : Nat) (vo vf : Value) (h : DObj w g ib ic m n vo vf) (hn : 0 < n) :
    Calls Tryd.prog 53 #[.pointer (some ⟨g, 0, none⟩)] w fun e w' => e = .returned (.bool true) ∧ w = w' := by
  obtain ⟨c0, c1, c2, c3, _, _, _⟩ := obj_cells h.1
  obtain ⟨_, h1, h2⟩ := h
  have hn' : (0 : Int) < (n : Int) := by omega
  go_enter Tryd.func53, Tryd.ntmps53
  go_wp2
  go_ret
  exact ⟨rfl, rfl⟩
theorem made_nil (w : World) :
    Calls Tryd.prog 53 #[.pointer none] w fun e w' => e = .returned (.bool false) ∧ w = w' := by
  go_enter Tryd.func53, Tryd.ntmps53
  go_wp2
  go_ret
  exact ⟨rfl, rfl⟩
theorem sectors_is (w : World) (g ib ic m n : Nat) (vo vf : Value) (h : DObj w g ib ic m n vo vf) (hn : 0 < n) :
    Calls Tryd.prog 31 #[.pointer (some ⟨g, 0, none⟩)] w fun e w' => e = .returned (.int .i64 ((n / 512 : Nat) : Int)) ∧ w = w' := by
  obtain ⟨c0, c1, c2, c3, _, _, _⟩ := obj_cells h.1
  have H := Lib.hid h
  obtain ⟨_, h1, h2⟩ := h
  go_enter Tryd.func31, Tryd.ntmps31
  go_wp2_with fail
  refine (made_is _ g ib ic m n vo vf H.out hn).mono ?_
  rintro e w1 ⟨rfl, rfl⟩
  go_wp2_with fail
  go_ret
  exact ⟨ret_int (by omega), rfl⟩
theorem sectors_nil (w : World) :
    Calls Tryd.prog 31 #[.pointer none] w fun e w' => e = .returned (.int .i64 0) ∧ w = w' := by
  go_enter Tryd.func31, Tryd.ntmps31
  go_wp2_with fail
  refine (made_nil _).mono ?_
  rintro e w1 ⟨rfl, rfl⟩
  go_wp2_with fail
  go_ret
  exact ⟨rfl, rfl⟩
theorem has_is (w : World) (g ib ic m n : Nat) (vo vf : Value) (x : Int) (h : DObj w g ib ic m n vo vf) (hn : 0 < n) :
    Calls Tryd.prog 98 #[.pointer (some ⟨g, 0, none⟩), .int .i64 x] w fun e w' => e = .returned (.bool (decide (0 ≤ x ∧ x < ((n / 512 : Nat) : Int)))) ∧ w = w' := by
  have H := Lib.hid (sectors_is w g ib ic m n vo vf h hn)
  clear h
  generalize n / 512 = k at *
  by_cases h0 : 0 ≤ x
  · by_cases h1 : x < (k : Int)
    · have hd : decide (0 ≤ x ∧ x < (k : Int)) = true := by simp [h0, h1]
      rw [hd]
      clear hd
      go_enter Tryd.func98, Tryd.ntmps98
      go_wp2_with fail
      refine H.out.mono ?_
      rintro e w1 ⟨rfl, rfl⟩
      go_wp2_with fail
      go_ret
      exact ⟨rfl, rfl⟩
    · have hd : decide (0 ≤ x ∧ x < (k : Int)) = false := by simp [h1]
      have HD : Hid (decide (x < (k : Int)) = false) := by rw [Hid]; simp; omega
      rw [hd]
      clear hd
      go_enter Tryd.func98, Tryd.ntmps98
      go_wp2_with fail
      refine H.out.mono ?_
      rintro e w1 ⟨rfl, rfl⟩
      go_wp2_with fail
      go_ret
      exact ⟨show Ending.returned (.bool (decide (x < (k : Int)))) = _ by rw [HD.out], rfl⟩
  · have hd : decide (0 ≤ x ∧ x < (k : Int)) = false := by simp [h0]
    rw [hd]
    clear hd
    go_enter Tryd.func98, Tryd.ntmps98
    go_wp2_with fail
    go_ret
    exact ⟨rfl, rfl⟩
theorem below_is (w : World) (g ib ic m n k : Nat) (vo vf : Value) (h : DObj w g ib ic m n vo vf) (hk : 512 * (k + 1) ≤ n) :
    Calls Tryd.prog 101 #[.pointer (some ⟨g, 0, none⟩), .int .i64 (k : Int)] w fun e w' => e = .returned (.slice (some ⟨ib, 512 * k, none⟩) 512 (ic - 512 * k)) ∧ w = w' := by
  obtain ⟨c0, c1, c2, c3, _, _, _⟩ := obj_cells h.1
  obtain ⟨_, h1, h2⟩ := h
  have R : ∀ W, (Instr.slice 27 (.slice (some ⟨ib, 0, none⟩) n ic) (some (.int .i64 ((k : Int) * 512))) (some (.int .i64 (((k : Int) + 1) * 512))) none).run Tryd.prog W = .ok (.slice (some ⟨ib, 512 * k, none⟩) 512 (ic - 512 * k)) W := by
    intro W
    rw [run_slice_lh W 27 _ n ic elemByte .i64 .i64 _ _ (by omega) (by omega) (by omega), sizeByte]
    have e1 : ((k : Int) * 512).toNat = 512 * k := by omega
    have e2 : (((k : Int) + 1) * 512).toNat = 512 * k + 512 := by omega
    simp only [Result.andThen, sliced, e1, e2]
    rw [if_neg (by omega)]
    simp [plainAdd]
  go_enter Tryd.func101, Tryd.ntmps101
  go_wp2_with fail
  go_ret
  exact ⟨rfl, rfl⟩
end Go.Proofs.YtknagdbhhfelnaaDoor

/-
  Package sector: a disk's parts set anew; 'fails', New, Of, Image, Cached by their contracts. Conditions: none but that the disk lies there.
-/
namespace Go.Proofs.YtknagdbhhfelnaaDoor
open Go.RowKit Go.Maps
set_option maxRecDepth 100000

theorem tag_ne {w : World} {a b : Nat} {x y : Array Value} {t u : TypeId} {f f' : Nat × Nat} (ha : w.heap[a]? = some (.cells x t f)) (hb : w.heap[b]? = some (.cells y u f')) (h : t ≠ u) : a ≠ b := by
  rintro rfl
  rw [ha] at hb
  injection hb with hb
  injection hb with _ hb _
  exact h hb
theorem map_ne {w : World} {m b n : Nat} {D : DataW Unit} {y : Array Value} {u : TypeId} {f' : Nat × Nat} (ha : w.ownsMap Tryd.prog 3 rowE m n D) (hb : w.heap[b]? = some (.cells y u f')) : m ≠ b := by
  rintro rfl
  obtain ⟨es, clock, h, _⟩ := ha
  rw [h] at hb
  cases hb
section
variable {w : World} {g ib ic m : Nat} {s : St} {vo vf : Value} {D : DataW Unit}
theorem DskAt.ib_g (h : DskAt w g s ib ic m vo vf D) : ib ≠ g := by
  obtain ⟨cur, hc⟩ := ownsRow_block h.img (k := ib) rfl
  exact tag_ne hc h.obj (by decide)
theorem DskAt.m_g (h : DskAt w g s ib ic m vo vf D) : m ≠ g := map_ne h.mp h.obj
theorem DskAt.m_ib (h : DskAt w g s ib ic m vo vf D) : m ≠ ib := by
  obtain ⟨cur, hc⟩ := ownsRow_block h.img (k := ib) rfl
  exact map_ne h.mp hc
theorem DskAt.o_g (h : DskAt w g s ib ic m vo vf D) {k : Nat} (hk : vo.ownBlock = some k) : k ≠ g := by
  obtain ⟨cur, hc⟩ := ownsRow_block h.ord hk
  exact tag_ne hc h.obj (by decide)
theorem DskAt.o_ib (h : DskAt w g s ib ic m vo vf D) {k : Nat} (hk : vo.ownBlock = some k) : k ≠ ib := by
  obtain ⟨cur, hc⟩ := ownsRow_block h.ord hk
  obtain ⟨cur', hc'⟩ := ownsRow_block h.img (k := ib) rfl
  exact tag_ne hc hc' (by decide)
theorem DskAt.o_m (h : DskAt w g s ib ic m vo vf D) {k : Nat} (hk : vo.ownBlock = some k) : k ≠ m := by
  obtain ⟨cur, hc⟩ := ownsRow_block h.ord hk
  exact (map_ne h.mp hc).symm
theorem Flt.block {F : Option Nat} {f : Nat} (h : Flt w vf F) (hf : ptrBlock vf = some f) : ∃ n, vf = .pointer (some ⟨f, 0, none⟩) ∧ F = some n ∧ w.heap[f]? = some (.cells #[.int .i64 (n : Int)] 3 (0, 0)) := by
  rcases h with ⟨rfl, _⟩ | ⟨f', n, rfl, h1, h2⟩
  · cases hf
  · simp [ptrBlock] at hf
    subst hf
    exact ⟨n, rfl, h1, h2⟩
theorem DskAt.f_g (h : DskAt w g s ib ic m vo vf D) {f : Nat} (hf : ptrBlock vf = some f) : f ≠ g := by
  obtain ⟨n, _, _, hb⟩ := h.flt.block hf
  exact tag_ne hb h.obj (by decide)
theorem DskAt.f_ib (h : DskAt w g s ib ic m vo vf D) {f : Nat} (hf : ptrBlock vf = some f) : f ≠ ib := by
  obtain ⟨n, _, _, hb⟩ := h.flt.block hf
  obtain ⟨cur', hc'⟩ := ownsRow_block h.img (k := ib) rfl
  exact tag_ne hb hc' (by decide)
theorem DskAt.f_m (h : DskAt w g s ib ic m vo vf D) {f : Nat} (hf : ptrBlock vf = some f) : f ≠ m := by
  obtain ⟨n, _, _, hb⟩ := h.flt.block hf
  exact (map_ne h.mp hb).symm

/-- The fault set anew. -/
theorem DskAt.setF (h : DskAt w g s ib ic m vo vf D) {vf' : Value} {F' : Option Nat} (hF : Flt w vf' F') (hne : ∀ f, ptrBlock vf' = some f → vo.ownBlock ≠ some f) :
    DskAt (w.setCell ⟨g, 3, none⟩ vf') g { s with F := F' } ib ic m vo vf' D := by
  refine ⟨?_, ownsRow_same h.img (fun k hk => heap_cell_other ?_), ownsMap_same h.mp (heap_cell_other h.m_g), h.fits, ownsRow_same h.ord (fun k hk => heap_cell_other (h.o_g hk)), hF.same (fun k hk => heap_cell_other ?_), hne⟩
  · have := h.obj
    simp [World.setCell, Array.getElem?_modify, this]
  · simp [Value.ownBlock] at hk
    exact hk ▸ h.ib_g
  · obtain ⟨n, _, _, hb⟩ := hF.block hk
    exact tag_ne hb h.obj (by decide)
theorem DskAt.count (h : DskAt w g s ib ic m vo vf D) {f : Nat} (hf : vf = .pointer (some ⟨f, 0, none⟩)) (k : Nat) :
    DskAt (w.setCell ⟨f, 0, none⟩ (.int .i64 (k : Int))) g { s with F := some k } ib ic m vo vf D := by
  subst hf
  refine ⟨(heap_cell_other (h.f_g rfl).symm).trans h.obj, ownsRow_same h.img (fun i hi => heap_cell_other ?_), ownsMap_same h.mp (heap_cell_other (h.f_m rfl).symm), h.fits, ownsRow_same h.ord (fun i hi => heap_cell_other ?_), .inr ⟨f, k, rfl, rfl, ?_⟩, h.apart⟩
  · simp [Value.ownBlock] at hi
    exact hi ▸ (h.f_ib rfl).symm
  · intro e
    exact h.apart f rfl (e ▸ hi)
  · obtain ⟨n', _, _, hb⟩ := h.flt.block (f := f) rfl
    simp [World.setCell, Array.getElem?_modify, hb]
end

/-- What 'fails' leaves. -/
def Failed (w : World) (S : Nat → Prop) (g : Nat) (s : St) (e : Ending) (w' : World) : Prop := e = .returned (.bool (blows s.F)) ∧ Dsk w' S g (tick s) ∧ Trn S w w' ∧ w'.heap.size = w.heap.size
set_option maxHeartbeats 1000000 in
theorem fails_is (w : World) (S : Nat → Prop) (g : Nat) (s : St) (h : Dsk w S g s) :
    Calls Tryd.prog 99 #[.pointer (some ⟨g, 0, none⟩)] w (Failed w S g s) := by
  have H := Lib.hid h
  obtain ⟨ib, ic, m, vo, vf, D, ha, F, ok⟩ := h
  obtain ⟨c0, c1, c2, c3, f1, f2, f3⟩ := obj_cells ha.obj
  have HA := Lib.hid ha
  have HF := Lib.hid F
  have HO := Lib.hid ok
  rcases ha.flt with ⟨rfl, hF⟩ | ⟨f, n, rfl, hF, hb⟩
  · have e1 : tick s = s := by
      obtain ⟨B, C, F0⟩ := s
      simp at hF
      subst hF
      rfl
    clear ha F ok
    go_enter Tryd.func99, Tryd.ntmps99
    go_wp2_with fail
    go_ret
    exact ⟨by rw [hF]; rfl, by rw [e1]; exact H.out, Trn.refl _ _, rfl⟩
  · have d0 : w.cell? ⟨f, 0, none⟩ = some (.int .i64 (n : Int)) := by rw [cell_of_row _ _ _ _ _ _ hb]; rfl
    have d1 : w.frozen? ⟨f, 0, none⟩ = false := by simp [World.frozen?, hb]
    have hfm := ok.fuse n hF
    clear ha F ok hb
    cases n with
    | zero =>
      go_enter Tryd.func99, Tryd.ntmps99
      go_wp2_with fail
      go_ret
      refine ⟨by rw [hF]; rfl, ⟨ib, ic, m, vo, .pointer none, D, ?_, ⟨HF.out.g, HF.out.ib, HF.out.m, HF.out.o, fun k hk => (by cases hk), fun k hk => by rw [setCell_size]; exact HF.out.lt k hk⟩, HO.out.tick⟩, (Trn.refl S w).setCell _ (fun _ => HF.out.g), setCell_size _ _ _⟩
      have := HA.out.setF (vf' := .pointer none) (F' := none) (.inl ⟨rfl, rfl⟩) (fun f hf => by cases hf)
      have e1 : tick s = { s with F := none } := by unfold tick; rw [hF]; rfl
      rw [e1]
      exact this
    | succ n =>
      have hn0 : ((((n + 1 : Nat) : Int)) == 0) = false := by simp; omega
      go_enter Tryd.func99, Tryd.ntmps99
      go_wp2_with fail
      go_ret
      have e1 : tick s = { s with F := some n } := by unfold tick; rw [hF]; rfl
      have e2 : ((n + 1 : Nat) : Int) - 1 = (n : Int) := by omega
      refine ⟨by rw [hF]; rfl, ⟨ib, ic, m, vo, _, D, ?_, ⟨HF.out.g, HF.out.ib, HF.out.m, HF.out.o, HF.out.f, fun k hk => by rw [setCell_size]; exact HF.out.lt k hk⟩, HO.out.tick⟩, (Trn.refl S w).setCell _ (fun _ => HF.out.f f rfl), setCell_size _ _ _⟩
      rw [e1]
      have := HA.out.count rfl n
      first | exact this | (simpa using this) | (rw [← e2] at this; exact this)
end Go.Proofs.YtknagdbhhfelnaaDoor

/-
  Package sector: New, Of, Image, Cached by their contracts. Conditions: none but that the disk lies there.
-/
namespace Go.Proofs.YtknagdbhhfelnaaDoor
open Go.RowKit Go.Maps
set_option maxRecDepth 100000

theorem iinfo : (Tryd.prog.info? 3).map (fun i => (i.zero, i.size, i.bytes)) = some (some (.int .i64 0), 1, 8) := by kernel_rfl
theorem inz_one (l : List Nat) : ∀ u ∈ inz l, u.oneCell' = true := by
  intro u hu
  simp [inz] at hu
  obtain ⟨b, _, rfl⟩ := hu
  rfl
theorem ownsRow_low {w : World} {B B' : Nat} {e : TypeId} {v : Value} {n : Nat} {xs : List Value} (h : w.ownsRow B e 1 v n xs) (hB : B' ≤ B) : w.ownsRow B' e 1 v n xs := by
  refine ⟨h.1, ?_⟩
  rcases h.2 with h0 | ⟨g, cap, cur, hv, hb, r⟩
  · exact .inl h0
  · exact .inr ⟨g, cap, cur, hv, Nat.le_trans hB hb, r⟩

/-- What a call that makes a disk leaves. -/
def Disked (w : World) (s : St) (e : Ending) (w' : World) : Prop :=
  ∃ g, e = .returned (.tuple #[.pointer (some ⟨g, 0, none⟩), .int .i64 0]) ∧ Dsk w' (fun k => w.heap.size ≤ k ∧ k < w'.heap.size) g s ∧ Below w.heap.size w w'
set_option maxHeartbeats 1000000 in
theorem disk_any (w : World) (ib ic : Nat) (B : List UInt8) (hv : Own w 0 5 (.slice (some ⟨ib, 0, none⟩) B.length ic) B) (ok : OkSt (ofS B)) :
    Calls Tryd.prog 30 #[.slice (some ⟨ib, 0, none⟩) B.length ic] w fun e w' => e = .returned (.pointer (some ⟨w.heap.size + 1, 0, none⟩)) ∧ Dsk w' (fun k => k = ib ∨ (w.heap.size ≤ k ∧ k < w'.heap.size)) (w.heap.size + 1) (ofS B) ∧ Below w.heap.size w w' := by
  have HV := Lib.hid hv
  have HO := Lib.hid ok
  have hlt : ib < w.heap.size := (World.ownsRow.lt hv ib rfl).2
  clear hv ok
  have hmm := @run_makeMap Tryd.prog
  go_enter Tryd.func30, Tryd.ntmps30
  go_wp2_with fail
  go_ret
  have hm := World.ownsMap_made w Tryd.prog 3 rowE
  refine ⟨rfl, ⟨ib, ic, w.heap.size, .slice none 0 0, .pointer none, .map [], ⟨?_, ?_, hm.alloc _, Fits.nil, World.ownsRow_nil _ _ _ _, .inl ⟨rfl, rfl⟩, fun f hf => (by cases hf)⟩, ⟨.inr ⟨by omega, by simp⟩, .inl rfl, .inr ⟨by omega, by simp; omega⟩, fun k hk => (by cases hk), fun k hk => (by cases hk), ?_⟩, HO.out⟩, ?_⟩
  · have := heap_alloc_new (w.alloc (.map #[] 0)) (.cells #[.slice (some ⟨ib, 0, none⟩) B.length ic, .map (some w.heap.size), .slice none 0 0, .pointer none] 107 (0, 0))
    rw [show (w.alloc (.map #[] 0)).heap.size = w.heap.size + 1 by simp] at this
    exact this
  · exact World.ownsRow.alloc (World.ownsRow.alloc HV.out _) _
  · rintro k (rfl | h)
    · simp; omega
    · exact h.2
  · exact (below_new w _).alloc (by simp) _

theorem mul512 (x : Int) (k : Nat) (h : x = (k : Int)) : x * 512 = ((512 * k : Nat) : Int) := by omega
set_option maxHeartbeats 1000000 in
theorem snew_any (w : World) (n : Nat) (h0 : 0 < n) (h1 : n ≤ 32768) : Calls Tryd.prog 9 #[.int .i64 (n : Int)] w (Disked w (newS n)) := by
  obtain ⟨i0, hi0, hz0, hz1, hz2⟩ := info_parts uinfo
  have h2 : ¬ (n : Int) < 1 := by omega
  have h3 : ¬ (32768 : Int) < (n : Int) := by omega
  go_enter Tryd.func9, Tryd.ntmps9
  go_wp2_with (at_make; refine wpList_make_full _ rfl _ _ 27 rfl w.heap.size 5 i0 _ 1 Tryd.underlying27 hi0 hz0 hz1 _ _ _ _ (512 * n) rfl rfl (by omega) (by omega) (by rw [hz2]; omega) (by simp only [maxLen]; omega) (Nat.le_refl _) ?_; intro w1 hown1 hg1)
  have HV : Own w1 w.heap.size 5 (.slice (some ⟨w.heap.size, 0, none⟩) (List.replicate (512 * n) (0 : UInt8)).length (512 * n)) (List.replicate (512 * n) 0) := by
    have e1 : (madeCells (Value.cells (.int .u8 0)) (512 * n * 1)).toList = byc (List.replicate (512 * n) 0) := by
      rw [show (Value.cells (.int .u8 0)) = #[.int .u8 0] from rfl, toList_madeCells_one, Nat.mul_one]
      simp [byc]
    rw [e1] at hown1
    unfold Own
    rw [List.length_replicate]
    exact hown1
  have HB := Lib.hid (below_none hg1)
  have OK := OkSt.new h0 h1
  have C := Lib.hid (disk_any w1 w.heap.size (512 * n) (List.replicate (512 * n) 0) (HV.lower (Nat.zero_le _)) OK)
  have hlt : w.heap.size < w1.heap.size := (World.ownsRow.lt HV w.heap.size rfl).2
  rw [List.length_replicate] at C
  clear hown1 HV OK hg1
  go_wp2_with fail
  refine C.out.mono ?_
  rintro e w2 ⟨rfl, hd, hb2⟩
  have HD := Lib.hid hd
  have HB2 := Lib.hid hb2
  clear hd hb2
  go_wp2_with fail
  go_ret2
  refine ⟨_, rfl, HD.out.wide ?_ (fun k hk => hk.2), HB.out.trans (HB2.out.mono HB.out.size)⟩
  rintro k (rfl | hk)
  · exact ⟨Nat.le_refl _, Nat.lt_of_lt_of_le hlt HB2.out.size⟩
  · exact ⟨Nat.le_trans HB.out.size hk.1, hk.2⟩
theorem snew_bad (w : World) (x : Int) (h : x < 1 ∨ 32768 < x) : Calls Tryd.prog 9 #[.int .i64 x] w fun e w' => e = .returned (.tuple #[.pointer none, .int .i64 2]) ∧ w = w' := by
  by_cases h1 : x < 1
  · go_enter Tryd.func9, Tryd.ntmps9
    go_wp2_with fail
    go_ret2
    exact ⟨rfl, rfl⟩
  · have h2 : (32768 : Int) < x := by omega
    go_enter Tryd.func9, Tryd.ntmps9
    go_wp2_with fail
    go_ret2
    exact ⟨rfl, rfl⟩
/-- May bytes be a disk? -/
def MayOf (l : List UInt8) : Prop := 0 < l.length ∧ l.length % 512 = 0 ∧ l.length ≤ 16777216
/-- A disk's image, as bytes. -/
theorem Dsk.parts {w : World} {S : Nat → Prop} {g : Nat} {s : St} (h : Dsk w S g s) :
    ∃ ib ic m vo vf, DObj w g ib ic m s.B.length vo vf ∧ Byt w (.slice (some ⟨ib, 0, none⟩) s.B.length ic) s.B ∧ w.ownsRow 0 3 1 vo s.C.length (inz (keysC s.C)) := by
  obtain ⟨ib, ic, m, vo, vf, D, h, F, ok⟩ := h
  obtain ⟨A', c', e, h1, h2, _⟩ := Own.byt h.img
  injection e with _ _ e3
  subst e3
  unfold maxLen at h2
  exact ⟨ib, ic, m, vo, vf, ⟨h.obj, h1, by omega⟩, Own.byt h.img, h.ord⟩
theorem OkSt.pos {s : St} (h : OkSt s) : 0 < s.B.length := by have := h.whole; have := h.some_; omega
theorem OkSt.short {s : St} (h : OkSt s) : s.B.length ≤ 16777216 := by have := h.whole; have := h.few; omega
theorem sectors_any (w : World) (S : Nat → Prop) (g : Nat) (s : St) (h : Dsk w S g s) :
    Calls Tryd.prog 31 #[.pointer (some ⟨g, 0, none⟩)] w fun e w' => e = .returned (.int .i64 ((secs s : Nat) : Int)) ∧ w = w' := by
  obtain ⟨ib, ic, m, vo, vf, hd, hb, _⟩ := h.parts
  exact sectors_is w g ib ic m _ vo vf hd h.ok.pos

/-! Rows of ints. -/
theorem ints_rowz {w : World} {B : Nat} {v : Value} {n : Nat} {xs : List Value} (h : w.ownsRow B 3 1 v n xs) : Rowz w v xs := by
  have hl : xs.length = n := by simpa using h.1
  rcases h.2 with ⟨rfl, h0⟩ | ⟨g, cap, cur, rfl, hb, hg, h1, h2, h3, h4⟩
  · obtain rfl : xs = [] := List.eq_nil_of_length_eq_zero (by omega)
    exact Rowz.nil w
  · refine ⟨_, cap, by rw [hl], by omega, h2, .inr ⟨g, 0, rfl, (Array.getElem?_eq_some_iff.1 hg).1, fun j hj => ?_⟩⟩
    have := World.ownsRow.cells h (g := g) rfl j xs[j] (List.getElem?_eq_getElem hj)
    rw [plainAdd] at this
    exact this
/-- What a call that makes a list of ints of its own leaves. -/
def MadeI (w : World) (l : List Nat) (e : Ending) (w' : World) : Prop :=
  ∃ v, e = .returned v ∧ w'.ownsRow w.heap.size 3 1 v l.length (inz l) ∧ Below w.heap.size w w'
set_option maxHeartbeats 1000000 in
theorem clonei_any (w : World) (v : Value) (l : List Nat) (hv : w.ownsRow 0 3 1 v l.length (inz l)) (hlen : l.length ≤ 100000) :
    Calls Tryd.prog 23 #[v] w (MadeI w l) := by
  obtain ⟨i0, hi0, hz0, hz1, hz2⟩ := info_parts iinfo
  rcases hv.2 with ⟨rfl, h0⟩ | ⟨g, cap, cur, rfl, _, hg, h1, h2, h3, h4⟩
  · obtain rfl : l = [] := List.eq_nil_of_length_eq_zero h0
    have E1 : ∀ W, (binOp .eql 26 (.slice none 0 0) (.slice none 0 0)).run Tryd.prog W = .ok (.bool true) W := fun W => Lib.run_eql_slice_nil W 26 3 none 0 0 0 0 Tryd.underlying26
    clear hv
    go_enter Tryd.func23, Tryd.ntmps23
    go_wp2_with fail
    go_ret
    exact ⟨_, rfl, World.ownsRow_nil w _ _ 1, Below.refl _ _⟩
  · have E1 : ∀ W, (binOp .eql 26 (.slice (some ⟨g, 0, none⟩) l.length cap) (.slice none 0 0)).run Tryd.prog W = .ok (.bool false) W := fun W => Lib.run_eql_slice_nil W 26 3 (some ⟨g, 0, none⟩) _ _ 0 0 Tryd.underlying26
    have HE := Lib.hid (World.ownsRow_lit (base := w.heap.size) (e := 3) (size := 1) w #[] 0 (Nat.le_refl _) (by simp [maxLen]) rfl)
    have HC : Hid (∀ j u, (inz l)[j]? = some u → (w.alloc (.cells #[] 3)).cell? ((⟨g, 0, none⟩ : Addr).add j) = some u) := fun j u hj => World.ownsRow.cells (hv.alloc _) (g := g) rfl j u hj
    have HL : Hid ((inz l).length = l.length * 1) := by rw [Hid]; simp [inz]
    have HI := Lib.hid (inz_one l)
    have HN : Hid (l.length ≤ 100000) := hlen
    clear hv h4 h3 hg hlen
    generalize hq : l.length = n at *
    have HQ := Lib.hid hq
    clear hq
    unfold maxLen at h2
    go_enter Tryd.func23, Tryd.ntmps23
    go_wp2_with (at_builtin; refine wpList_append_own_at _ rfl (.tmp 5) (.tmp 6) _ rfl w.heap.size 3 i0 _ 1 8 Tryd.underlying26 hi0 hz0 hz1 hz2 rfl (by omega) _ 0 [] rfl HE.out ⟨g, 0, none⟩ n cap (inz l) rfl HL.out HC.out HI.out (by have := HN.out; simp only [maxLen]; omega) (by have := HN.out; omega) (by simp) ?_; intro v1 w1 hown1 hg1 _ hat1)
    go_ret
    exact ⟨_, rfl, by rw [HQ.out]; simpa using hown1, below_own (below_new w _) (by simp) HE.out hg1⟩
end Go.Proofs.YtknagdbhhfelnaaDoor

/-
  Package sector: kept, settle by their contracts. Conditions: none but that the disk lies there.
-/
namespace Go.Proofs.YtknagdbhhfelnaaDoor
open Go.RowKit Go.Maps
set_option maxRecDepth 100000

/-- A crash by value. -/
def crashV (vk : Value) (torn bytes : Int) : Array Value := #[vk, .int .i64 torn, .int .i64 bytes]
theorem getD_bool {keep : List Bool} {k : Nat} (hk : k < keep.length) : keep.getD k false = keep[k] := by simp [hk]
/-- A copy of bytes into a row of the call's own. -/
theorem splice_take {α : Type} (L : List α) (n off : Nat) (cs : List α) (h : off + cs.length ≤ n) (hn : n ≤ L.length) : (splice L off cs).take n = splice (L.take n) off cs := by
  unfold splice
  have e1 : (L.take n).take off = L.take off := by rw [List.take_take]; congr 1; omega
  have hlen : (L.take off).length = off := by rw [List.length_take]; omega
  rw [e1, List.take_append, List.take_append, hlen]
  have e2 : (L.take off).take n = L.take off := List.take_of_length_le (by omega)
  have e3 : cs.take (n - off) = cs := List.take_of_length_le (by omega)
  rw [e2, e3, List.drop_take]
  congr 3
  omega
section
variable {ops : Array Oper} {rest : List Oper} {o : Oper} {a : Act} {w : World} {K : Act → World → Prop} {Q : Exit → Act → World → Prop}
theorem run_copyB (ty : TypeId) (ib off n ic dLen dCap : Nat) (B l : List UInt8) (sv : Value)
    (ho : Own w 0 5 (.slice (some ⟨ib, 0, none⟩) n ic) B) (hs : Byt w sv l) (hle : l.length ≤ dLen) (hfit : off + dLen ≤ n) :
    ∃ w', (Builtin.copy_ #[27, 27] ty #[.slice (some ⟨ib, off, none⟩) dLen dCap, sv]).run Tryd.prog w = .ok (goInt l.length) w' ∧ Own w' 0 5 (.slice (some ⟨ib, 0, none⟩) n ic) (splice B off l) ∧ Trn (fun k => k = ib) w w' ∧ w'.heap.size = w.heap.size := by
  have hsz : (Tryd.prog.info? 5).map (·.size) = some 1 := by kernel_rfl
  obtain ⟨A, c, rfl, h1, h2, h3⟩ := hs
  have hBl : B.length = n := by
    rcases ho.2 with ⟨e, _⟩ | ⟨g, cap, cur, e, _⟩
    · cases e
    · injection e with _ e _; exact e.symm
  have hmin : Nat.min l.length dLen = l.length := Nat.min_eq_left hle
  by_cases h0 : l.length = 0
  · obtain rfl : l = [] := List.eq_nil_of_length_eq_zero h0
    refine ⟨w, ?_, ?_, Trn.refl _ _, rfl⟩
    · exact run_copy_none (P := Tryd.prog) w 27 27 ty 5 _ A dLen dCap _ c Tryd.underlying27 hsz hmin
    · have : splice B off [] = B := by simp [splice]
      rw [this]; exact ho
  · rcases h3 with h3 | ⟨b, so, rfl, hb, hc⟩
    · subst h3; simp at h0
    · rcases ho.2 with ⟨e, _⟩ | ⟨g, cap, cur, e, hle0, hg, q1, q2, q3, q4⟩
      · cases e
      · injection e with e1 e2 e3
        injection e1 with e1
        injection e1 with e1
        subst e1 e3
        subst e2
        have hrun := run_copy_row (P := Tryd.prog) w 27 27 ty 5 ib off dLen dCap ⟨b, so, none⟩ l.length c cur 5 (byc l) Tryd.underlying27 hsz hg (by rw [byc_len, hmin]) (fun j v hv => by
          obtain ⟨hj, rfl⟩ := byc_get l j v hv
          rw [plainAdd]; exact hc j hj) (by rw [byc_len]; omega) (byc_one l)
        rw [byc_len] at hrun
        refine ⟨_, hrun, ⟨?_, .inr ⟨ib, ic, _, ?_, hle0, setRow_heap w ib _ _ _ _ hg, ?_, q2, ?_, ?_⟩⟩, ⟨rfl, rfl, rfl, by simp [World.setRow], fun k hk hne => setRow_other w ib k _ hne⟩, by simp [World.setRow]⟩
        · rw [byc_len]; omega
        · rw [length_splice _ _ _ (by omega)]
        · rw [length_splice _ _ _ (by omega)]; exact q1
        · simp [byc_len]; omega
        · have e : (cur.toList.take off ++ byc l ++ cur.toList.drop (off + l.length)).toArray.toList = splice cur.toList off (byc l) := by
            simp [splice, byc_len]
          rw [e, length_splice _ _ _ (by omega), splice_take _ _ _ _ (by rw [byc_len]; omega) (by simp; omega), q4, byc_splice]
theorem wpList_copyB (hgd : o.guard = none) (d s : Operand) (ho' : o.op = .call { callee := .builtin .copy, args := #[d, s], argTypes := #[27, 27] })
    (ib off n ic dLen dCap : Nat) (B l : List UInt8) (sv : Value) (hd : a.eval d = .slice (some ⟨ib, off, none⟩) dLen dCap) (hs' : a.eval s = sv)
    (ho : Own w 0 5 (.slice (some ⟨ib, 0, none⟩) n ic) B) (hs : Byt w sv l) (hle : l.length ≤ dLen) (hfit : off + dLen ≤ n)
    (h : ∀ w', Own w' 0 5 (.slice (some ⟨ib, 0, none⟩) n ic) (splice B off l) → Trn (fun k => k = ib) w w' → w'.heap.size = w.heap.size → wpList Tryd.prog ops Q rest (a.put o.dst (goInt l.length)) w') : wpList Tryd.prog ops Q (o :: rest) a w := by
  refine wpList_plain hgd fun K hK => ?_
  obtain ⟨w', hrun, g1, g2, g3⟩ := run_copyB (w := w) o.type ib off n ic dLen dCap B l sv ho hs hle hfit
  unfold Oper.wp
  simp [execOp, ho', resolve, invoke, builtin, hd, hs', hrun, Result.andThen]
  exact hK _ _ (h w' g1 g2 g3)
end
end Go.Proofs.YtknagdbhhfelnaaDoor

/-
  Package sector: settle by its contract, whatever function tells how many bytes are kept. Conditions: none but that the disk lies there.
-/
namespace Go.Proofs.YtknagdbhhfelnaaDoor
open Go.RowKit Go.Maps
set_option maxRecDepth 100000

def SettleRel (w : World) (ib ic n : Nat) (f : Nat → Nat) (B : List UInt8) (C : Cch) (i : Value) (wr : World) : Prop :=
  ∃ k : Nat, k ≤ C.length ∧ i = .int .i64 (k : Int) ∧ Own wr 0 5 (.slice (some ⟨ib, 0, none⟩) n ic) (settleTo f B C k) ∧ Trn (fun x => x = ib) w wr

theorem rowSliceRun (W : World) (b k : Nat) (hk : k ≤ 512) : (Instr.sliceAt 149 (.pointer (some ⟨b, 0, none⟩)) none (some (.int .i64 (k : Int))) none).run Tryd.prog W = .ok (.slice (some ⟨b, 0, none⟩) k 512) W := by
  have ha : Tryd.prog.arrayLen 149 = 512 := by kernel_rfl
  have he : ∀ W, (sizeOf (Tryd.prog.elem 149)).run Tryd.prog W = .ok 1 W := fun _ => by kernel_rfl
  rw [run_sliceAt_array_h W 149 ⟨b, 0, none⟩ (by kernel_rfl) .i64 (k : Int) (by omega) (by rw [ha]; omega), he]
  simp [Result.andThen, slicedAt, ha, Addr.add]
theorem rowSliceAll (W : World) (b : Nat) : (Instr.sliceAt 149 (.pointer (some ⟨b, 0, none⟩)) none none none).run Tryd.prog W = .ok (.slice (some ⟨b, 0, none⟩) 512 512) W := by
  have ha : Tryd.prog.arrayLen 149 = 512 := by kernel_rfl
  have he : ∀ W, (sizeOf (Tryd.prog.elem 149)).run Tryd.prog W = .ok 1 W := fun _ => by kernel_rfl
  rw [run_sliceAt_array_all W 149 ⟨b, 0, none⟩ (by kernel_rfl), he]
  simp [Result.andThen, slicedAt, ha, Addr.add]
theorem mapUnder : Tryd.prog.underlying 104 = some (.map 3 149) := by kernel_rfl
theorem look_run {w : World} {m N : Nat} {D : DataW Unit} {C : Cch} (h : w.ownsMap Tryd.prog 3 rowE m N D) (hf : Fits D C) {n : Nat} {l : List UInt8} (hl : lookC C n = some l) (hn : n ≤ 9223372036854775807) :
    (Instr.lookup 104 (.map (some m)) (.int .i64 (n : Int)) false).run Tryd.prog w = .ok (.agg (byc l).toArray) w := by
  obtain ⟨v, ps, hrun, hv⟩ := h.lookup intKeyed mapUnder (rowZero w) (rowE_mk zero512 zero512_len) (keyOf_int_mk Tryd.underlying3 (keyL_wf hn))
  have := (hf.hit n l hl).2
  obtain ⟨l', _, rfl, e⟩ := rowE_inv hv
  rw [show (Lit.int .i64 (n : Int)) = keyL n from rfl, show (DataW.lit (Lit.string zero512) : DataW Unit) = zrow from rfl, this] at e
  injection e with e
  injection e with e
  rw [hrun, e]

theorem settled_trn {w wr : World} {S : Nat → Prop} {g ib ic m : Nat} {vo vf : Value} {s : St} {D : DataW Unit} (F : Foot S w g ib m vo vf) (_ha : DskAt w g s ib ic m vo vf D) (ht : Trn (fun x => x = ib) w wr) (v1 v2 : Value) :
    Trn S w (((wr.setCell ⟨g, 1, none⟩ v1).setCell ⟨g, 2, none⟩ v2).alloc (.map #[] 0)) :=
  (((ht.wide (fun _ e => e ▸ F.ib)).setCell _ (fun _ => F.g)).setCell _ (fun _ => F.g)).alloc _
theorem settled {w wr : World} {S : Nat → Prop} {g ib ic m : Nat} {vo vf : Value} {s : St} {D : DataW Unit} {f : Nat → Nat} (ha : DskAt w g s ib ic m vo vf D) (F : Foot S w g ib m vo vf) (ok : OkSt s)
    (ho : Own wr 0 5 (.slice (some ⟨ib, 0, none⟩) s.B.length ic) (settleTo f s.B s.C s.C.length)) (ht : Trn (fun x => x = ib) w wr) :
    Dsk (((wr.setCell ⟨g, 1, none⟩ (.map (some wr.heap.size))).setCell ⟨g, 2, none⟩ (.slice none 0 0)).alloc (.map #[] 0)) (more S w (((wr.setCell ⟨g, 1, none⟩ (.map (some wr.heap.size))).setCell ⟨g, 2, none⟩ (.slice none 0 0)).alloc (.map #[] 0))) g (settleS f s) := by
  have hsz : (((wr.setCell ⟨g, 1, none⟩ (.map (some wr.heap.size))).setCell ⟨g, 2, none⟩ (.slice none 0 0)).alloc (.map #[] 0)).heap.size = wr.heap.size + 1 := by rw [World.size_alloc, setCell_size, setCell_size]
  have hg : g < w.heap.size := F.lt g F.g
  have hgr : g < wr.heap.size := Nat.lt_of_lt_of_le hg ht.size
  have hold : ∀ k, k ≠ g → k < wr.heap.size → (((wr.setCell ⟨g, 1, none⟩ (.map (some wr.heap.size))).setCell ⟨g, 2, none⟩ (.slice none 0 0)).alloc (.map #[] 0)).heap[k]? = wr.heap[k]? := fun k hk hl =>
    (heap_alloc_old _ _ (by rw [setCell_size, setCell_size]; exact hl)).trans ((heap_cell_other hk).trans (heap_cell_other hk))
  have hl : (settleS f s).B.length = s.B.length := settleS_len f ok
  refine ⟨ib, ic, wr.heap.size, .slice none 0 0, vf, .map [], ⟨?_, ?_, ?_, Fits.nil, World.ownsRow_nil _ _ _ _, ?_, fun k _ h => (by cases h)⟩, ⟨.inl F.g, .inl F.ib, .inr ⟨ht.size, by rw [hsz]; omega⟩, fun k hk => (by cases hk), fun k hk => .inl (F.f k hk), ?_⟩, ok.settle f⟩
  · rw [hl]
    have h1 : wr.heap[g]? = some (.cells #[.slice (some ⟨ib, 0, none⟩) s.B.length ic, .map (some m), vo, vf] 107 (0, 0)) := (ht.block g hg (fun e => ha.ib_g e.symm)).trans ha.obj
    rw [heap_alloc_old _ _ (by rw [setCell_size, setCell_size]; exact hgr)]
    simp [World.setCell, Array.getElem?_modify, h1]
  · rw [hl]
    refine ownsRow_same ho (fun k hk => hold k ?_ ?_)
    · simp [Value.ownBlock] at hk
      exact hk ▸ ha.ib_g
    · simp [Value.ownBlock] at hk
      exact hk ▸ Nat.lt_of_lt_of_le (F.lt ib F.ib) ht.size
  · have := World.ownsMap_made ((wr.setCell ⟨g, 1, none⟩ (.map (some wr.heap.size))).setCell ⟨g, 2, none⟩ (.slice none 0 0)) Tryd.prog 3 rowE
    rw [setCell_size, setCell_size] at this
    exact this
  · refine ha.flt.same (fun k hk => ?_)
    have hkw := F.lt k (F.f k hk)
    rw [hold k (ha.f_g hk) (Nat.lt_of_lt_of_le hkw ht.size)]
    exact ht.block k hkw (ha.f_ib hk)
  · rintro k (hk | hk)
    · rw [hsz]; have := F.lt k hk; have := ht.size; omega
    · exact hk.2

end Go.Proofs.YtknagdbhhfelnaaDoor

/-
  Package sector: Flush, Fail, Crash, Read by their contracts. Conditions: none but that the disk lies there, and what is handed in apart from it.
-/
namespace Go.Proofs.YtknagdbhhfelnaaDoor
open Go.RowKit Go.Maps
set_option maxRecDepth 100000

theorem Byt.trn {w w' : World} {S : Nat → Prop} {v : Value} {l : List UInt8} (h : Byt w v l) (ht : Trn S w w') (hn : ∀ k, v.ownBlock = some k → ¬ S k) : Byt w' v l := by
  obtain ⟨A, c, rfl, h1, h2, h3⟩ := h
  refine ⟨A, c, rfl, h1, h2, ?_⟩
  rcases h3 with h3 | ⟨b, off, rfl, hb, hc⟩
  · exact .inl h3
  · exact .inr ⟨b, off, rfl, Nat.lt_of_lt_of_le hb ht.size, fun j hj => by
      rw [← hc j hj]
      exact World.cell?_of_block (a := ⟨b, off + j, none⟩) (ht.block b hb (hn b rfl))⟩
theorem Rowz.trn {w w' : World} {S : Nat → Prop} {v : Value} {vs : List Value} (h : Rowz w v vs) (ht : Trn S w w') (hn : ∀ k, v.ownBlock = some k → ¬ S k) : Rowz w' v vs := by
  obtain ⟨A, c, rfl, h1, h2, h3⟩ := h
  refine ⟨A, c, rfl, h1, h2, ?_⟩
  rcases h3 with h3 | ⟨b, off, rfl, hb, hc⟩
  · exact .inl h3
  · exact .inr ⟨b, off, rfl, Nat.lt_of_lt_of_le hb ht.size, fun j hj => by
      rw [← hc j hj]
      exact World.cell?_of_block (a := ⟨b, off + j, none⟩) (ht.block b hb (hn b rfl))⟩
theorem more_lt {w w' : World} {S : Nat → Prop} (hs : w.heap.size ≤ w'.heap.size) (h : ∀ k, S k → k < w.heap.size) : ∀ k, more S w w' k → k < w'.heap.size := by
  rintro k (hk | hk)
  · have := h k hk; omega
  · exact hk.2
theorem Dsk.more {w' w0 : World} {S : Nat → Prop} {g : Nat} {s : St} (h : Dsk w' S g s) (hs : w0.heap.size ≤ w'.heap.size) (hl : ∀ k, S k → k < w0.heap.size) : Dsk w' (more S w0 w') g s := h.wide (fun _ => .inl) (more_lt hs hl)

/-- What a call that answers an error alone leaves. -/
def Done (w : World) (S : Nat → Prop) (g : Nat) (r : Nat × St) (e : Ending) (w' : World) : Prop := e = .returned (.int .i64 ((r.1 : Nat) : Int)) ∧ Dsk w' (more S w w') g r.2 ∧ Trn S w w'
def flushR (s : St) : Nat × St := if blows s.F then (8, tick s) else (0, settleS (fun _ => 512) (tick s))
/-! Fail. -/
theorem alloc_setCell (w : World) (o : Obj) {g k : Nat} (v : Value) (hg : g < w.heap.size) : (w.alloc o).setCell ⟨g, k, none⟩ v = (w.setCell ⟨g, k, none⟩ v).alloc o := by
  unfold World.setCell World.alloc
  simp only
  congr 1
  apply Array.ext_getElem?
  intro i
  simp only [Array.getElem?_modify, Array.getElem?_push, Array.size_modify]
  by_cases h : g = i
  · subst h
    rw [if_pos rfl, if_pos rfl, if_neg (by omega), if_neg (by omega)]
  · rw [if_neg h, if_neg h]
theorem failed_at {w : World} {S : Nat → Prop} {g : Nat} {s : St} {a : Int} (h : Dsk w S g s) (ha : 0 ≤ a) (hm : a ≤ 9223372036854775807) :
    Dsk (((w.setCell ⟨g, 3, none⟩ (.pointer none)).setCell ⟨g, 3, none⟩ (.pointer (some ⟨w.heap.size, 0, none⟩))).alloc (.cells #[.int .i64 a] 3)) (more S w (((w.setCell ⟨g, 3, none⟩ (.pointer none)).setCell ⟨g, 3, none⟩ (.pointer (some ⟨w.heap.size, 0, none⟩))).alloc (.cells #[.int .i64 a] 3))) g (failS s a) := by
  obtain ⟨ib, ic, m, vo, vf, D, h, F, ok⟩ := h
  have hsz : (((w.setCell ⟨g, 3, none⟩ (.pointer none)).setCell ⟨g, 3, none⟩ (.pointer (some ⟨w.heap.size, 0, none⟩))).alloc (.cells #[.int .i64 a] 3)).heap.size = w.heap.size + 1 := by rw [World.size_alloc, setCell_size, setCell_size]
  have hg : g < w.heap.size := F.lt g F.g
  have hold : ∀ k, k ≠ g → k < w.heap.size → (((w.setCell ⟨g, 3, none⟩ (.pointer none)).setCell ⟨g, 3, none⟩ (.pointer (some ⟨w.heap.size, 0, none⟩))).alloc (.cells #[.int .i64 a] 3)).heap[k]? = w.heap[k]? := fun k hk hl =>
    (heap_alloc_old _ _ (by rw [setCell_size, setCell_size]; exact hl)).trans ((heap_cell_other hk).trans (heap_cell_other hk))
  have hS : failS s a = { s with F := some a.toNat } := by unfold failS; rw [if_neg (by omega)]
  rw [hS]
  refine ⟨ib, ic, m, vo, .pointer (some ⟨w.heap.size, 0, none⟩), D, ⟨?_, ownsRow_same h.img (fun k hk => hold k ?_ ?_), ownsMap_same h.mp (hold m h.m_g (F.lt m F.m)), h.fits, ownsRow_same h.ord (fun k hk => hold k (h.o_g hk) (F.lt k (F.o k hk))), .inr ⟨w.heap.size, a.toNat, rfl, rfl, ?_⟩, fun f hf => ?_⟩,
    ⟨.inl F.g, .inl F.ib, .inl F.m, fun k hk => .inl (F.o k hk), fun k hk => ?_, more_lt (by rw [hsz]; omega) F.lt⟩, hS ▸ ok.fail hm⟩
  · rw [heap_alloc_old _ _ (by rw [setCell_size, setCell_size]; exact hg)]
    have := h.obj
    simp [World.setCell, Array.getElem?_modify, this]
  · simp [Value.ownBlock] at hk
    exact hk ▸ h.ib_g
  · simp [Value.ownBlock] at hk
    exact hk ▸ F.lt ib F.ib
  · have := heap_alloc_new ((w.setCell ⟨g, 3, none⟩ (.pointer none)).setCell ⟨g, 3, none⟩ (.pointer (some ⟨w.heap.size, 0, none⟩))) (.cells #[.int .i64 a] 3)
    rw [setCell_size, setCell_size] at this
    rw [show ((a.toNat : Nat) : Int) = a by omega]
    exact this
  · simp [ptrBlock] at hf
    subst hf
    intro e
    have := F.lt _ (F.o _ e)
    omega
  · simp [ptrBlock] at hk
    subst hk
    exact .inr ⟨Nat.le_refl _, by rw [hsz]; omega⟩
theorem failed_off {w : World} {S : Nat → Prop} {g : Nat} {s : St} {a : Int} (h : Dsk w S g s) (ha : a < 0) (o : Obj) :
    Dsk ((w.setCell ⟨g, 3, none⟩ (.pointer none)).alloc o) (more S w ((w.setCell ⟨g, 3, none⟩ (.pointer none)).alloc o)) g (failS s a) := by
  obtain ⟨ib, ic, m, vo, vf, D, h, F, ok⟩ := h
  have hS : failS s a = { s with F := none } := by unfold failS; rw [if_pos ha]
  have h1 := h.setF (vf' := .pointer none) (F' := none) (.inl ⟨rfl, rfl⟩) (fun f hf => by cases hf)
  have h2 : Dsk (w.setCell ⟨g, 3, none⟩ (.pointer none)) S g (failS s a) := by
    rw [hS]
    exact ⟨ib, ic, m, vo, .pointer none, D, h1, ⟨F.g, F.ib, F.m, F.o, fun k hk => (by cases hk), fun k hk => by rw [setCell_size]; exact F.lt k hk⟩, hS ▸ ok.fail (by omega)⟩
  exact (h2.below (below_new _ o)).more (by simp) F.lt
end Go.Proofs.YtknagdbhhfelnaaDoor

/-
  Package sector: Crash, Read by their contracts. Conditions: none but that the disk lies there, and what is handed in apart from it.
-/
namespace Go.Proofs.YtknagdbhhfelnaaDoor
open Go.RowKit Go.Maps
set_option maxRecDepth 100000

end Go.Proofs.YtknagdbhhfelnaaDoor

