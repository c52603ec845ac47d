/-
  The document's readers (tallymanref01): New, take, Word of four bytes; append of noughts. Conditions: none.
-/
import Derived.Test.YthakkaffjnkhgaaRowq
import Derived.Test.YthakkaffjnkhgaaRef1
import Derived.Test.YthakkaffjnkhgaaRead5
import Derived.Lib.AppendStr
namespace Go.Proofs.Ythakkaffjnkhgaa
open Go.RowKit Go.Maps
set_option maxRecDepth 100000
set_option linter.unusedSimpArgs false

theorem zcells (m : Nat) : Builtin.zeroCells (Value.int .u8 0).cells m = (byc (zsB m)).toArray := by
  apply Array.ext'
  have e : (Value.int .u8 0).cells = #[.int .u8 0] := rfl
  simp only [Builtin.zeroCells, e, byc, zsB, Array.toList_map, Array.toList_range, List.map_replicate]
  rw [show (#[Value.int .u8 0] : Array Value).size = 1 from rfl, Nat.mul_one]
  refine List.ext_getElem (by simp) (fun i h1 h2 => ?_)
  simp [Nat.mod_one]
theorem append_zeros (w : World) (base : Option Addr) (n c m : Nat) (ty : TypeId) (h : n + m ≤ 10000) (h0 : m ≠ 0) :
    (Builtin.append_ #[30, 3] ty #[.slice base n c, .int .i64 (m : Int)]).run Try.prog w = (Builtin.append_ #[30, 9] ty #[.slice base n c, .string ⟨(zsB m).toArray⟩]).run Try.prog w := by
  obtain ⟨i0, hi0, hz0, hz1, hz2⟩ := info_parts uinfo
  have hls : (⟨(zsB m).toArray⟩ : ByteArray).size = m := by simp [ByteArray.size, zsB]
  have hw : IntKind.i64.wrap (m : Int) = (m : Int) := by rw [IntKind.wrap_i64]; omega
  have h1 : ¬ ((m : Int) < 0) := by omega
  have h2 : ¬ ((281474976710656 : Int) < (m : Int)) := by omega
  have h3 : ¬ ((9223372036854775807 : Int) < (n : Int) + (m : Int)) := by omega
  have ha : ∀ W, (asInt (.int .i64 (m : Int))).run Try.prog W = .ok (m : Int) W := fun _ => rfl
  have hc := zcells m
  have hs1 : List.take m (List.map (fun b : UInt8 => Value.int .u8 (b.toNat : Int)) (zsB m)) = byc (zsB m) := by
    rw [List.take_of_length_le (by simp [zsB])]; rfl
  by_cases hroom : n + m ≤ c
  · simp [Builtin.append_, run_underlying Try.underlying30, run_underlying Try.underlying3, run_underlying Try.underlying9, sizeOf, typeInfo, zeroValue, hi0, hz0, hz1, hz2, Builtin.lenOf, Builtin.firstCells, hls, ha, hw, h1, h2, hs1, hc, hroom, h0]
  · have h4 : ¬ (281474976710656 < Builtin.nextslicecap (n + m) c) := by
      have := growslice_fits (need := n + m) (old := c) (bytes := 1) (by omega) (by omega)
      omega
    simp [Builtin.append_, run_underlying Try.underlying30, run_underlying Try.underlying3, run_underlying Try.underlying9, sizeOf, typeInfo, zeroValue, hi0, hz0, hz1, hz2, Builtin.lenOf, Builtin.firstCells, hls, ha, hw, h1, h2, h3, hs1, hc, hroom, h0, h4]
theorem append_none (w : World) (base : Option Addr) (n c : Nat) (ty : TypeId) (h : n ≤ c) :
    (Builtin.append_ #[30, 3] ty #[.slice base n c, .int .i64 0]).run Try.prog w = .ok (.slice base n c) w := by
  obtain ⟨i0, hi0, hz0, hz1, hz2⟩ := info_parts uinfo
  have ha : ∀ W, (asInt (.int .i64 0)).run Try.prog W = .ok 0 W := fun _ => rfl
  have hw : IntKind.i64.wrap 0 = 0 := rfl
  cases base <;> simp [Builtin.append_, run_underlying Try.underlying30, run_underlying Try.underlying3, sizeOf, typeInfo, hi0, hz1, ha, hw, h, storeCells]
section
variable {ops : Array Oper} {rest : List Oper} {o : Oper} {a : Act} {w : World} {Q : Exit → Act → World → Prop}
/-- 'append(b, make([]byte, m)...)' onto a row of the call's own. -/
theorem wp_appM {K : Act → World → Prop} (s x : Operand) (ho : o.op = .call { callee := .builtin .append, args := #[s, x], argTypes := #[30, 3] })
    (B : Nat) (v : Value) (l : List UInt8) (hs : a.eval s = v) (hown : Own w B 5 v l) (X : Int) (m : Nat) (hx : a.eval x = .int .i64 X) (hX : X = (m : Int)) (hlen : l.length + m ≤ 10000) (hbase : B ≤ w.heap.size)
    (h : ∀ v' w', Own w' B 5 v' (l ++ zsB m) → w.grownBy w' v.ownBlock → K (a.put o.dst v') w') : o.wp Try.prog a w K Q := by
  subst hX
  obtain ⟨i0, hi0, hz0, hz1, hz2⟩ := info_parts uinfo
  obtain ⟨A, n, c, rfl, N, hnc, hcm⟩ := hown.byt.form
  have hn := N.out
  by_cases h0 : m = 0
  · subst h0
    have hrun := append_none w A n c o.type hnc
    unfold Oper.wp execOp
    simp only [ho, resolve, invoke, builtin, Sem.run_bind, Sem.run_pure, Result.andThen_ok, List.map_toArray, List.map_cons, List.map_nil, hs, hx]
    rw [show (((0 : Nat) : Int)) = 0 from rfl, hrun]
    exact h _ _ (by simpa [zsB] using hown) ⟨rfl, rfl, rfl, Nat.le_refl _, fun _ _ _ => rfl⟩
  · have hls : (⟨(zsB m).toArray⟩ : ByteArray).size = m := by simp [ByteArray.size, zsB]
    obtain ⟨v', w', hrun, g1, g2, _⟩ := Lib.run_append_own_string (P := Try.prog) w B 30 9 o.type 5 i0 Try.underlying30 Try.underlying9 hi0 hz0 hz1 hz2 _ _ _ hown ⟨(zsB m).toArray⟩ (by rw [hls]; unfold maxLen; omega) (by rw [hls]; omega) hbase
    rw [← append_zeros w A n c m o.type (by omega) h0] at hrun
    unfold Oper.wp execOp
    simp only [ho, resolve, invoke, builtin, Sem.run_bind, Sem.run_pure, Result.andThen_ok, List.map_toArray, List.map_cons, List.map_nil, hs, hx, hrun]
    refine h v' w' ?_ g2
    rw [hls] at g1
    unfold Own
    rw [List.length_append, byc_app, zsB_len]
    have e : Lib.strCells ⟨(zsB m).toArray⟩ = byc (zsB m) := by simp [Lib.strCells, byc]
    rw [e] at g1
    exact g1
theorem wpList_appM (hgd : o.guard = none) (s x : Operand) (ho : o.op = .call { callee := .builtin .append, args := #[s, x], argTypes := #[30, 3] })
    (B : Nat) (v : Value) (l : List UInt8) (hs : a.eval s = v) (hown : Own w B 5 v l) (X : Int) (m : Nat) (hx : a.eval x = .int .i64 X) (hX : X = (m : Int)) (hlen : l.length + m ≤ 10000) (hbase : B ≤ w.heap.size)
    (h : ∀ v' w', Own w' B 5 v' (l ++ zsB m) → w.grownBy w' v.ownBlock → wpList Try.prog ops Q rest (a.put o.dst v') w') : wpList Try.prog ops Q (o :: rest) a w :=
  wpList_plain hgd fun _ hK => wp_appM s x ho B v l hs hown X m hx hX hlen hbase fun v' w' h1 h2 => hK _ _ (h v' w' h1 h2)
end

/-- The document's reader, that stands at these bytes. -/
def RRdr (w : World) (g : Nat) (l : List UInt8) : Prop :=
  ∃ A c, w.heap[g]? = some (.cells #[.slice A l.length c, .int .i64 0] 76) ∧ Byt w (.slice A l.length c) l
theorem RRdr.below {w w' : World} {g : Nat} {l : List UInt8} (h : RRdr w g l) (hb : Below w.heap.size w w') : RRdr w' g l := by
  obtain ⟨A, c, h1, h2⟩ := h
  exact ⟨A, c, (hb.block g (Array.getElem?_eq_some_iff.1 h1).1).trans h1, h2.below hb⟩
theorem r1new_any (w : World) (v : Value) (l : List UInt8) (hv : Byt w v l) (hlen : l.length ≤ 10000) :
    Calls Try.prog 43 #[v] w fun e w' => ∃ g, e = .returned (.pointer (some ⟨g, 0, none⟩)) ∧ w.heap.size ≤ g ∧ RRdr w' g l ∧ Below w.heap.size w w' := by
  obtain ⟨i0, hi0, hz0, hz1, hz2⟩ := info_parts uinfo
  have HV := Lib.hid hv
  have HE := Lib.hid (Own.empty w)
  clear hv
  go_enter Try.func43, Try.ntmps43
  go_wp2_with (at_builtin; refine wpList_app _ rfl (.tmp 3) (.tmp 4) _ rfl w.heap.size 5 i0 _ Try.underlying30 hi0 hz0 hz1 hz2 rfl _ [] rfl HE.out _ l rfl (HV.out.alloc _) (by simp; omega) (by simp) ?_; intro v1 w1 hown1 hg1 hat1; have hb1 := below_own (below_new w _) (by simp) HE.out hg1; rw [List.nil_append] at hown1; obtain ⟨A1, n1, c1, rfl, N1, hnc1, hcm1⟩ := hown1.byt.form)
  go_ret
  have hn := N1.out
  subst hn
  exact ⟨w1.heap.size, rfl, hb1.size, ⟨A1, c1, heap_alloc_new w1 _, hown1.byt.alloc _⟩, hb1.alloc hb1.size _⟩
/-- What take of four bytes leaves. -/
def RTook (w : World) (g : Nat) (l : List UInt8) (e : Ending) (w' : World) : Prop :=
  ∃ v, e = .returned (.tuple #[v, .bool true]) ∧ Byt w' v l ∧ w.grownBy w' (some g)
theorem rcells {w : World} {g : Nat} {l : List UInt8} (h : RRdr w g l) : ∃ A c, w.cell? ⟨g, 0, none⟩ = some (.slice A l.length c) ∧ w.cell? ⟨g, 1, none⟩ = some (.int .i64 0) ∧ w.frozen? ⟨g, 0, none⟩ = false ∧ Byt w (.slice A l.length c) l ∧ g < w.heap.size ∧ ¬ (∃ off u, w.cell? ⟨g, off, none⟩ = some (.int .u8 u)) ∧ l.length ≤ c ∧ c ≤ 9223372036854775807 := by
  obtain ⟨A, c, h1, h2⟩ := h
  have h3 := h2
  obtain ⟨A', c', e, h4, h5, _⟩ := h3
  injection e with _ _ e
  subst e
  unfold maxLen at h5
  refine ⟨A, c, by rw [cell_of_row _ _ _ _ _ _ h1]; rfl, by rw [cell_of_row _ _ _ _ _ _ h1]; rfl, by simp [World.frozen?, h1], h2, (Array.getElem?_eq_some_iff.1 h1).1, ?_, h4, by omega⟩
  rintro ⟨off, u, hc⟩
  rw [cell_of_row _ _ _ _ _ _ h1] at hc
  match off, hc with
  | 0, hc => simp at hc
  | 1, hc => simp at hc
  | n + 2, hc => simp at hc
theorem word_add (m : List UInt8) (k : Nat) (hk : k < m.length) : wordN (m.take (k + 1)) = wordN (m.take k) + m[k].toNat * 256 ^ k := by
  rw [List.take_succ_eq_append_getElem hk, wordN_snoc, List.length_take, Nat.min_eq_left (by omega)]
theorem wrap_add (k a x : Nat) (hk : k < 4) (hx : x < 256) (ha : a < 256 ^ k) : IntKind.u64.wrap ((a : Int) + IntKind.u64.wrap ((x : Int) * 2 ^ (8 * k))) = ((a + x * 256 ^ k : Nat) : Int) := by
  have hk4 : k = 0 ∨ k = 1 ∨ k = 2 ∨ k = 3 := by omega
  rcases hk4 with rfl | rfl | rfl | rfl <;> simp only [IntKind.wrap_u64] <;> simp at ha ⊢ <;> omega
end Go.Proofs.Ythakkaffjnkhgaa
