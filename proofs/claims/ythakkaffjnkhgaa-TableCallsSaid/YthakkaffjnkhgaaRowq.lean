/-
  Rows of values and of slices: what a slice holds (Rowz, Byts), that a call owns it (OwnR), append onto it. Conditions: a row is short.
-/
import Derived.Test.YthakkaffjnkhgaaMade
namespace Go.Proofs.Ythakkaffjnkhgaa
open Go.RowKit
set_option maxRecDepth 100000

theorem Byt.at {w : World} {A : Option Addr} {n c k : Nat} {l : List UInt8} (h : Byt w (.slice A n c) l) (hk : k < l.length) :
    ∃ b off, A = some ⟨b, off, none⟩ ∧ b < w.heap.size ∧ ∀ j (hj : j < l.length), w.cell? ⟨b, off + j, none⟩ = some (.int .u8 (l[j].toNat : Int)) := by
  obtain ⟨A', c', hv, h1, h2, h3⟩ := h
  injection hv with e1 e2 e3
  subst e1
  rcases h3 with h3 | h3
  · subst h3; simp at hk
  · exact h3

/-- The slice value v holds these values, a cell each. -/
def Rowz (w : World) (v : Value) (vs : List Value) : Prop :=
  ∃ (A : Option Addr) (c : Nat), v = .slice A vs.length c ∧ vs.length ≤ c ∧ c ≤ maxLen ∧
    (vs = [] ∨ ∃ b off, A = some ⟨b, off, none⟩ ∧ b < w.heap.size ∧ ∀ j (hj : j < vs.length), w.cell? ⟨b, off + j, none⟩ = some vs[j])
theorem Rowz.nil (w : World) : Rowz w (.slice none 0 0) [] := ⟨none, 0, rfl, by simp, by simp [maxLen], .inl rfl⟩
theorem Rowz.below {w w' : World} {v : Value} {vs : List Value} (h : Rowz w v vs) (hb : Below w.heap.size w w') : Rowz w' v vs := by
  obtain ⟨A, c, rfl, h1, h2, h3⟩ := h
  refine ⟨A, c, rfl, h1, h2, ?_⟩
  rcases h3 with h3 | ⟨b, off, rfl, hlt, hc⟩
  · exact .inl h3
  · exact .inr ⟨b, off, rfl, Nat.lt_of_lt_of_le hlt hb.size, fun j hj => by rw [← hc j hj]; exact hb.cell (p := ⟨b, off + j, none⟩) hlt⟩
theorem Rowz.form {w : World} {v : Value} {vs : List Value} (h : Rowz w v vs) : ∃ A n c, v = .slice A n c ∧ Hid (n = vs.length) ∧ n ≤ c ∧ c ≤ 9223372036854775807 := by
  obtain ⟨A, c, rfl, h1, h2, _⟩ := h
  unfold maxLen at h2
  exact ⟨A, _, c, rfl, rfl, h1, by omega⟩
theorem Rowz.at {w : World} {A : Option Addr} {n c k : Nat} {vs : List Value} (h : Rowz w (.slice A n c) vs) (hk : k < vs.length) :
    ∃ b off, A = some ⟨b, off, none⟩ ∧ b < w.heap.size ∧ ∀ j (hj : j < vs.length), w.cell? ⟨b, off + j, none⟩ = some vs[j] := by
  obtain ⟨A', c', hv, h1, h2, h3⟩ := h
  injection hv with e1 e2 e3
  subst e1
  rcases h3 with h3 | h3
  · subst h3; simp at hk
  · exact h3

/-- The values are slices of these bytes. -/
def Byts (w : World) (vs : List Value) (ls : List (List UInt8)) : Prop := vs.length = ls.length ∧ ∀ j (hj : j < vs.length) (hj' : j < ls.length), Byt w vs[j] ls[j]
theorem Byts.below {w w' : World} {vs : List Value} {ls : List (List UInt8)} (h : Byts w vs ls) (hb : Below w.heap.size w w') : Byts w' vs ls := ⟨h.1, fun j hj hj' => (h.2 j hj hj').below hb⟩
theorem Byts.nil (w : World) : Byts w [] [] := ⟨rfl, fun j hj => by simp at hj⟩
theorem Byts.snoc {w : World} {vs : List Value} {ls : List (List UInt8)} (h : Byts w vs ls) {v : Value} {l : List UInt8} (hv : Byt w v l) : Byts w (vs ++ [v]) (ls ++ [l]) := by
  refine ⟨by simp [h.1], fun j hj hj' => ?_⟩
  by_cases hlt : j < vs.length
  · rw [List.getElem_append_left hlt, List.getElem_append_left (by have := h.1; omega)]
    exact h.2 j hlt _
  · have e : j = vs.length := by simp at hj; omega
    subst e
    have h1 := h.1
    simp [h1]
    exact hv

/-- The slice value v holds these slices in a row of the call's own, from block B on. -/
def OwnR (w : World) (B : Nat) (v : Value) (vs : List Value) : Prop := w.ownsRow B 30 1 v vs.length vs
theorem OwnR.nil (w : World) (B : Nat) : OwnR w B (.slice none 0 0) [] := World.ownsRow_nil w B _ 1
theorem OwnR.rowz {w : World} {B : Nat} {v : Value} {vs : List Value} (h : OwnR w B v vs) : Rowz w v vs := by
  rcases h.2 with ⟨rfl, h0⟩ | ⟨g, cap, cur, rfl, hb, hg, h1, h2, h3, h4⟩
  · obtain rfl : vs = [] := List.eq_nil_of_length_eq_zero h0
    exact Rowz.nil w
  · refine ⟨_, cap, rfl, h1, h2, .inr ⟨g, 0, rfl, (Array.getElem?_eq_some_iff.1 hg).1, fun j hj => ?_⟩⟩
    have := World.ownsRow.cells h (g := g) rfl j vs[j] (List.getElem?_eq_getElem hj)
    rw [plainAdd] at this
    exact this
theorem OwnR.keep {w w' : World} {B : Nat} {v : Value} {vs : List Value} (h : OwnR w B v vs) (hb : Below w.heap.size w w') : OwnR w' B v vs := by
  refine World.ownsRow.kept (row := none) h ⟨hb.os, hb.tape, hb.output, hb.size, fun k hk _ => hb.block k hk⟩ ?_
  cases v.ownBlock <;> simp
theorem sinfo : (Try.prog.info? 30).map (fun i => (i.zero, i.size, i.bytes)) = some (some (.slice none 0 0), 1, 24) := by kernel_rfl

section
variable {ops : Array Oper} {rest : List Oper} {o : Oper} {a : Act} {w : World} {Q : Exit → Act → World → Prop}
end

theorem heap_cell_other {w : World} {g k i : Nat} {v : Value} (h : i ≠ g) : (w.setCell ⟨g, k, none⟩ v).heap[i]? = w.heap[i]? := Below.heap_setCell _ _ _ _ h
theorem setCell_size (w : World) (a : Addr) (v : Value) : (w.setCell a v).heap.size = w.heap.size := by simp [World.setCell]
section
open Go.Maps
def zsB (n : Nat) : List UInt8 := List.replicate n 0
theorem zsB_len (n : Nat) : (zsB n).length = n := by simp [zsB]
theorem made_zeros (n : Nat) : (madeCells (Value.cells (.int .u8 0)) (n * 1)).toList = byc (zsB n) := by
  rw [show (Value.cells (.int .u8 0)) = #[.int .u8 0] from rfl, toList_madeCells_one, Nat.mul_one]
  simp [byc, zsB]
theorem own_zeros {w : World} {B g n : Nat} (h : w.ownsRow B 5 1 (.slice (some ⟨g, 0, none⟩) n n) n (madeCells (Value.cells (.int .u8 0)) (n * 1)).toList) : Own w B 5 (.slice (some ⟨g, 0, none⟩) n n) (zsB n) := by
  rw [made_zeros] at h
  unfold Own
  rw [zsB_len]
  exact h
end
end Go.Proofs.Ythakkaffjnkhgaa
