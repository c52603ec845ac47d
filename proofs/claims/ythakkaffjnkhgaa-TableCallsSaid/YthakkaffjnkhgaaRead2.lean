/-
  Readers as objects in memory, and New, Err, Left, End of them by their contracts. Conditions: none but that the reader lies there.
-/
import Derived.Test.YthakkaffjnkhgaaRead1
namespace Go.Proofs.Ythakkaffjnkhgaa
open Go.RowKit
set_option maxRecDepth 100000

/-- Block g is a reader with the bytes l ahead of it and the error e. -/
def Rdr (w : World) (g : Nat) (l : List UInt8) (e : Nat) : Prop :=
  ∃ A c, w.heap[g]? = some (.cells #[.bool true, .slice A l.length c, .int .i64 (e : Int)] 67 (0, 0)) ∧ Byt w (.slice A l.length c) l

theorem Rdr.lt {w : World} {g e : Nat} {l : List UInt8} (h : Rdr w g l e) : g < w.heap.size := by
  obtain ⟨A, c, h1, _⟩ := h
  rcases Nat.lt_or_ge g w.heap.size with hlt | hge
  · exact hlt
  · rw [Array.getElem?_eq_none hge] at h1; cases h1

theorem Rdr.notByte {w : World} {g e : Nat} {l : List UInt8} (h : Rdr w g l e) : ¬ ∃ off u, w.cell? ⟨g, off, none⟩ = some (.int .u8 u) := by
  obtain ⟨A, c, h1, _⟩ := h
  rintro ⟨off, u, hc⟩
  rw [cell_of_row _ _ _ _ _ _ h1] at hc
  match off, hc with
  | 0, hc => simp at hc
  | 1, hc => simp at hc
  | 2, hc => simp at hc
  | n + 3, hc => simp at hc

/-- Bytes stay as they were while a reader alone is written. -/
theorem Byt.reader {w w' : World} {v : Value} {l m : List UInt8} {g e : Nat} (h : Byt w v l) (hr : Rdr w g m e) (hg : w.grownBy w' (some g)) : Byt w' v l :=
  h.keep hg.size fun b hlt hex => hg.block b hlt (by rintro ⟨rfl⟩; exact hr.notByte hex)

theorem Rdr.below {w w' : World} {g e : Nat} {l : List UInt8} (h : Rdr w g l e) (hb : Below w.heap.size w w') : Rdr w' g l e := by
  have hlt := h.lt
  obtain ⟨A, c, h1, h2⟩ := h
  exact ⟨A, c, (hb.block g hlt).trans h1, h2.below hb⟩
theorem Rdr.other {w w' : World} {g g' e e' : Nat} {l l' : List UInt8} (h : Rdr w g l e) (h' : Rdr w g' l' e') (hne : g ≠ g') (hg : w.grownBy w' (some g')) : Rdr w' g l e := by
  have hlt := h.lt
  obtain ⟨A, c, h1, h2⟩ := h
  exact ⟨A, c, (hg.block g hlt (by rintro ⟨rfl⟩; exact hne rfl)).trans h1, h2.reader h' hg⟩

theorem grown_trans {a b c : World} {r : Option Nat} (h : a.grownBy b r) (k : b.grownBy c r) : a.grownBy c r :=
  ⟨k.os.trans h.os, k.tape.trans h.tape, k.output.trans h.output, Nat.le_trans h.size k.size, fun i hi hr => (k.block i (Nat.lt_of_lt_of_le hi h.size) hr).trans (h.block i hi hr)⟩
theorem grown_below {a b : World} {r : Option Nat} (h : Below a.heap.size a b) : a.grownBy b r := ⟨h.os, h.tape, h.output, h.size, fun i hi _ => h.block i hi⟩
theorem grown_refl (a : World) (r : Option Nat) : a.grownBy a r := ⟨rfl, rfl, rfl, Nat.le_refl _, fun _ _ _ => rfl⟩
theorem grown_set (a : World) (g i : Nat) (u : Value) : a.grownBy (a.setCell ⟨g, i, none⟩ u) (some g) :=
  ⟨rfl, rfl, rfl, by simp [World.setCell], fun k _ hk => Below.heap_setCell _ _ _ _ (by rintro rfl; exact hk rfl)⟩

/-- The reader's rest, or its error, set anew. -/
theorem Rdr.setErr {w : World} {g e : Nat} {l : List UInt8} (h : Rdr w g l e) (x : Nat) : Rdr (w.setCell ⟨g, 2, none⟩ (.int .i64 (x : Int))) g l x := by
  have h0 := h
  obtain ⟨A, c, h1, h2⟩ := h
  refine ⟨A, c, ?_, h2.reader h0 (grown_set w g 2 _)⟩
  simp [World.setCell, Array.getElem?_modify, h1]
theorem Rdr.setRest {w : World} {g e : Nat} {l m : List UInt8} {A : Option Addr} {c : Nat} (h : Rdr w g l e) (hm : Byt w (.slice A m.length c) m) : Rdr (w.setCell ⟨g, 1, none⟩ (.slice A m.length c)) g m e := by
  have h0 := h
  obtain ⟨A', c', h1, h2⟩ := h
  refine ⟨A, c, ?_, hm.reader h0 (grown_set w g 1 _)⟩
  simp [World.setCell, Array.getElem?_modify, h1]

/-- What the walk asks of a reader's cells. -/
theorem Rdr.cells {w : World} {g e : Nat} {l : List UInt8} (h : Rdr w g l e) :
    ∃ A c, w.cell? ⟨g, 0, none⟩ = some (.bool true) ∧ w.cell? ⟨g, 1, none⟩ = some (.slice A l.length c) ∧ w.cell? ⟨g, 2, none⟩ = some (.int .i64 (e : Int)) ∧
      w.frozen? ⟨g, 1, none⟩ = false ∧ w.frozen? ⟨g, 2, none⟩ = false ∧ Byt w (.slice A l.length c) l ∧ l.length ≤ c ∧ c ≤ 9223372036854775807 := by
  obtain ⟨A, c, h1, h2⟩ := h
  have h3 := h2
  obtain ⟨A', c', hv, h4, h5, _⟩ := h3
  injection hv with e1 e2 e3
  subst e1 e3
  unfold maxLen at h5
  exact ⟨A, c, by rw [cell_of_row _ _ _ _ _ _ h1]; rfl, by rw [cell_of_row _ _ _ _ _ _ h1]; rfl, by rw [cell_of_row _ _ _ _ _ _ h1]; rfl, by simp [World.frozen?, h1], by simp [World.frozen?, h1], h2, h4, by omega⟩

set_option maxHeartbeats 400000 in
theorem new_any (w : World) (v : Value) (l : List UInt8) (hv : Byt w v l) (hlen : l.length ≤ 70368744177664) :
    Calls Try.prog 36 #[v] w fun e w' => ∃ g, e = .returned (.pointer (some ⟨g, 0, none⟩)) ∧ w.heap.size ≤ g ∧ Rdr w' g l 0 ∧ Below w.heap.size w w' := by
  have HV := Lib.hid hv
  clear hv
  go_enter Try.func36, Try.ntmps36
  go_wp2_with (go_at_call 47; refine (behind_one _ _ l HV.out (by omega)).mono ?_; rintro e w1 ⟨v1, rfl, hown1, hb1⟩; obtain ⟨A1, n1, c1, rfl, HN1, _, _⟩ := hown1.byt.form)
  go_ret
  have hn := HN1.out
  subst hn
  exact ⟨w1.heap.size, rfl, hb1.size, ⟨A1, c1, heap_alloc_new w1 _, hown1.byt.alloc _⟩, hb1.alloc hb1.size _⟩

theorem err_is (w : World) (g e : Nat) (l : List UInt8) (hr : Rdr w g l e) :
    Calls Try.prog 48 #[.pointer (some ⟨g, 0, none⟩)] w fun x w' => x = .returned (.int .i64 (e : Int)) ∧ w = w' := by
  obtain ⟨A, c, h0, h1, h2, _, _, _, _, _⟩ := hr.cells
  clear hr
  go_enter Try.func48, Try.ntmps48
  go_wp2
  go_ret
  exact ⟨rfl, rfl⟩
theorem err_nil (w : World) :
    Calls Try.prog 48 #[.pointer none] w fun x w' => x = .returned (.int .i64 1) ∧ w = w' := by
  go_enter Try.func48, Try.ntmps48
  go_wp2
  go_ret
  exact ⟨rfl, rfl⟩
theorem left_is (w : World) (g e : Nat) (l : List UInt8) (hr : Rdr w g l e) :
    Calls Try.prog 50 #[.pointer (some ⟨g, 0, none⟩)] w fun x w' => x = .returned (.int .i64 (l.length : Int)) ∧ w = w' := by
  obtain ⟨A, c, h0, h1, h2, _, _, _, _, _⟩ := hr.cells
  clear hr
  go_enter Try.func50, Try.ntmps50
  go_wp2
  go_ret
  exact ⟨rfl, rfl⟩

/-- What a call of a reader that answers a number leaves. -/
def Told (w : World) (g : Nat) (k : IntKind) (n : Nat) (l : List UInt8) (e : Nat) (x : Ending) (w' : World) : Prop :=
  x = .returned (.int k (n : Int)) ∧ Rdr w' g l e ∧ w.grownBy w' (some g)

set_option maxHeartbeats 400000 in
theorem end_bad (w : World) (g : Nat) (l : List UInt8) (hr : Rdr w g l 0) (hl : 0 < l.length) :
    Calls Try.prog 38 #[.pointer (some ⟨g, 0, none⟩)] w (Told w g .i64 4 l 4) := by
  obtain ⟨A, c, h0, h1, h2, hf1, hf2, _, hlc, hcm⟩ := hr.cells
  have HR := Lib.hid hr
  have HR2 := Lib.hid (HR.out.setErr 4)
  have hl' : (0 : Int) < (l.length : Int) := by omega
  clear hr
  go_enter Try.func38, Try.ntmps38
  go_wp2_with fail
  refine (err_is _ g 0 l HR.out).mono ?_
  rintro x w1 ⟨rfl, rfl⟩
  go_wp2_with fail
  refine (left_is _ g 0 l HR.out).mono ?_
  rintro x w1 ⟨rfl, rfl⟩
  go_wp2_with fail
  refine (err_is _ g 4 l HR2.out).mono ?_
  rintro x w1 ⟨rfl, rfl⟩
  go_wp2_with fail
  go_ret
  exact ⟨rfl, HR2.out, grown_set w g 2 _⟩
theorem end_ok (w : World) (g : Nat) (hr : Rdr w g [] 0) :
    Calls Try.prog 38 #[.pointer (some ⟨g, 0, none⟩)] w (Told w g .i64 0 [] 0) := by
  have HR := Lib.hid hr
  clear hr
  go_enter Try.func38, Try.ntmps38
  go_wp2_with fail
  refine (err_is _ g 0 [] HR.out).mono ?_
  rintro x w1 ⟨rfl, rfl⟩
  go_wp2_with fail
  refine (left_is _ g 0 [] HR.out).mono ?_
  rintro x w1 ⟨rfl, rfl⟩
  go_wp2_with fail
  refine (err_is _ g 0 [] HR.out).mono ?_
  rintro x w1 ⟨rfl, rfl⟩
  go_wp2_with fail
  go_ret
  exact ⟨rfl, HR.out, grown_refl _ _⟩
theorem end_err (w : World) (g e : Nat) (l : List UInt8) (hr : Rdr w g l e) (he : e ≠ 0) :
    Calls Try.prog 38 #[.pointer (some ⟨g, 0, none⟩)] w (Told w g .i64 e l e) := by
  have HR := Lib.hid hr
  have he' : ((e : Int) == 0) = false := by simp; omega
  clear hr he
  go_enter Try.func38, Try.ntmps38
  go_wp2_with fail
  refine (err_is _ g e l HR.out).mono ?_
  rintro x w1 ⟨rfl, rfl⟩
  go_wp2_with fail
  refine (err_is _ g e l HR.out).mono ?_
  rintro x w1 ⟨rfl, rfl⟩
  go_wp2_with fail
  go_ret
  exact ⟨rfl, HR.out, grown_refl _ _⟩
theorem end_nil (w : World) :
    Calls Try.prog 38 #[.pointer none] w fun x w' => x = .returned (.int .i64 1) ∧ w = w' := by
  go_enter Try.func38, Try.ntmps38
  go_wp2_with fail
  refine (err_nil _).mono ?_
  rintro x w1 ⟨rfl, rfl⟩
  go_wp2_with fail
  refine (err_nil _).mono ?_
  rintro x w1 ⟨rfl, rfl⟩
  go_wp2_with fail
  go_ret
  exact ⟨rfl, rfl⟩
end Go.Proofs.Ythakkaffjnkhgaa
