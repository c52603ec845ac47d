/-
  The document's readers (tallymanref01): New, take, Word of four bytes; append of noughts. Conditions: none.
-/
import Derived.Test.YtknagdbhhfelnaaDoorMg0
import Derived.Lib.AppendStr
namespace Go.Proofs.YtknagdbhhfelnaaDoor
open Go.RowKit Go.Maps
set_option maxRecDepth 100000
set_option linter.unusedSimpArgs false

theorem zcells (m : Nat) : Builtin.zeroCells (Value.int .u8 0).cells m = (byc (zsB m)).toArray := by
  apply Array.ext'
  have e : (Value.int .u8 0).cells = #[.int .u8 0] := rfl
  simp only [Builtin.zeroCells, e, byc, zsB, Array.toList_map, Array.toList_range, List.map_replicate]
  rw [show (#[Value.int .u8 0] : Array Value).size = 1 from rfl, Nat.mul_one]
  refine List.ext_getElem (by simp) (fun i h1 h2 => ?_)
  simp [Nat.mod_one]
theorem append_zeros (w : World) (base : Option Addr) (n c m : Nat) (ty : TypeId) (h : n + m ≤ 10000) (h0 : m ≠ 0) :
    (Builtin.append_ #[27, 3] ty #[.slice base n c, .int .i64 (m : Int)]).run Tryd.prog w = (Builtin.append_ #[27, 9] ty #[.slice base n c, .string ⟨(zsB m).toArray⟩]).run Tryd.prog w := by
  obtain ⟨i0, hi0, hz0, hz1, hz2⟩ := info_parts uinfo
  have hls : (⟨(zsB m).toArray⟩ : ByteArray).size = m := by simp [ByteArray.size, zsB]
  have hw : IntKind.i64.wrap (m : Int) = (m : Int) := by rw [IntKind.wrap_i64]; omega
  have h1 : ¬ ((m : Int) < 0) := by omega
  have h2 : ¬ ((281474976710656 : Int) < (m : Int)) := by omega
  have h3 : ¬ ((9223372036854775807 : Int) < (n : Int) + (m : Int)) := by omega
  have ha : ∀ W, (asInt (.int .i64 (m : Int))).run Tryd.prog W = .ok (m : Int) W := fun _ => rfl
  have hc := zcells m
  have hs1 : List.take m (List.map (fun b : UInt8 => Value.int .u8 (b.toNat : Int)) (zsB m)) = byc (zsB m) := by
    rw [List.take_of_length_le (by simp [zsB])]; rfl
  by_cases hroom : n + m ≤ c
  · simp [Builtin.append_, run_underlying Tryd.underlying27, run_underlying Tryd.underlying3, run_underlying Tryd.underlying9, sizeOf, typeInfo, zeroValue, hi0, hz0, hz1, hz2, Builtin.lenOf, Builtin.firstCells, hls, ha, hw, h1, h2, hs1, hc, hroom, h0]
  · have h4 : ¬ (281474976710656 < Builtin.nextslicecap (n + m) c) := by
      have := growslice_fits (need := n + m) (old := c) (bytes := 1) (by omega) (by omega)
      omega
    simp [Builtin.append_, run_underlying Tryd.underlying27, run_underlying Tryd.underlying3, run_underlying Tryd.underlying9, sizeOf, typeInfo, zeroValue, hi0, hz0, hz1, hz2, Builtin.lenOf, Builtin.firstCells, hls, ha, hw, h1, h2, h3, hs1, hc, hroom, h0, h4]
theorem append_none (w : World) (base : Option Addr) (n c : Nat) (ty : TypeId) (h : n ≤ c) :
    (Builtin.append_ #[27, 3] ty #[.slice base n c, .int .i64 0]).run Tryd.prog w = .ok (.slice base n c) w := by
  obtain ⟨i0, hi0, hz0, hz1, hz2⟩ := info_parts uinfo
  have ha : ∀ W, (asInt (.int .i64 0)).run Tryd.prog W = .ok 0 W := fun _ => rfl
  have hw : IntKind.i64.wrap 0 = 0 := rfl
  cases base <;> simp [Builtin.append_, run_underlying Tryd.underlying27, run_underlying Tryd.underlying3, sizeOf, typeInfo, hi0, hz1, ha, hw, h, storeCells]
section
variable {ops : Array Oper} {rest : List Oper} {o : Oper} {a : Act} {w : World} {Q : Exit → Act → World → Prop}
/-- 'append(b, make([]byte, m)...)' onto a row of the call's own. -/
theorem wp_appM {K : Act → World → Prop} (s x : Operand) (ho : o.op = .call { callee := .builtin .append, args := #[s, x], argTypes := #[27, 3] })
    (B : Nat) (v : Value) (l : List UInt8) (hs : a.eval s = v) (hown : Own w B 5 v l) (X : Int) (m : Nat) (hx : a.eval x = .int .i64 X) (hX : X = (m : Int)) (hlen : l.length + m ≤ 10000) (hbase : B ≤ w.heap.size)
    (h : ∀ v' w', Own w' B 5 v' (l ++ zsB m) → w.grownBy w' v.ownBlock → K (a.put o.dst v') w') : o.wp Tryd.prog a w K Q := by
  subst hX
  obtain ⟨i0, hi0, hz0, hz1, hz2⟩ := info_parts uinfo
  obtain ⟨A, n, c, rfl, N, hnc, hcm⟩ := hown.byt.form
  have hn := N.out
  by_cases h0 : m = 0
  · subst h0
    have hrun := append_none w A n c o.type hnc
    unfold Oper.wp execOp
    simp only [ho, resolve, invoke, builtin, Sem.run_bind, Sem.run_pure, Result.andThen_ok, List.map_toArray, List.map_cons, List.map_nil, hs, hx]
    rw [show (((0 : Nat) : Int)) = 0 from rfl, hrun]
    exact h _ _ (by simpa [zsB] using hown) ⟨rfl, rfl, rfl, Nat.le_refl _, fun _ _ _ => rfl⟩
  · have hls : (⟨(zsB m).toArray⟩ : ByteArray).size = m := by simp [ByteArray.size, zsB]
    obtain ⟨v', w', hrun, g1, g2, _⟩ := Lib.run_append_own_string (P := Tryd.prog) w B 27 9 o.type 5 i0 Tryd.underlying27 Tryd.underlying9 hi0 hz0 hz1 hz2 _ _ _ hown ⟨(zsB m).toArray⟩ (by rw [hls]; unfold maxLen; omega) (by rw [hls]; omega) hbase
    rw [← append_zeros w A n c m o.type (by omega) h0] at hrun
    unfold Oper.wp execOp
    simp only [ho, resolve, invoke, builtin, Sem.run_bind, Sem.run_pure, Result.andThen_ok, List.map_toArray, List.map_cons, List.map_nil, hs, hx, hrun]
    refine h v' w' ?_ g2
    rw [hls] at g1
    unfold Own
    rw [List.length_append, byc_app, zsB_len]
    have e : Lib.strCells ⟨(zsB m).toArray⟩ = byc (zsB m) := by simp [Lib.strCells, byc]
    rw [e] at g1
    exact g1
theorem wpList_appM (hgd : o.guard = none) (s x : Operand) (ho : o.op = .call { callee := .builtin .append, args := #[s, x], argTypes := #[27, 3] })
    (B : Nat) (v : Value) (l : List UInt8) (hs : a.eval s = v) (hown : Own w B 5 v l) (X : Int) (m : Nat) (hx : a.eval x = .int .i64 X) (hX : X = (m : Int)) (hlen : l.length + m ≤ 10000) (hbase : B ≤ w.heap.size)
    (h : ∀ v' w', Own w' B 5 v' (l ++ zsB m) → w.grownBy w' v.ownBlock → wpList Tryd.prog ops Q rest (a.put o.dst v') w') : wpList Tryd.prog ops Q (o :: rest) a w :=
  wpList_plain hgd fun _ hK => wp_appM s x ho B v l hs hown X m hx hX hlen hbase fun v' w' h1 h2 => hK _ _ (h v' w' h1 h2)
end

/-- The document's reader, that stands at these bytes. -/
def RRdr (w : World) (g : Nat) (l : List UInt8) : Prop :=
  ∃ A c, w.heap[g]? = some (.cells #[.slice A l.length c, .int .i64 0] 109) ∧ Byt w (.slice A l.length c) l
theorem RRdr.below {w w' : World} {g : Nat} {l : List UInt8} (h : RRdr w g l) (hb : Below w.heap.size w w') : RRdr w' g l := by
  obtain ⟨A, c, h1, h2⟩ := h
  exact ⟨A, c, (hb.block g (Array.getElem?_eq_some_iff.1 h1).1).trans h1, h2.below hb⟩
theorem r1new_any (w : World) (v : Value) (l : List UInt8) (hv : Byt w v l) (hlen : l.length ≤ 10000) :
    Calls Tryd.prog 41 #[v] w fun e w' => ∃ g, e = .returned (.pointer (some ⟨g, 0, none⟩)) ∧ w.heap.size ≤ g ∧ RRdr w' g l ∧ Below w.heap.size w w' := by
  obtain ⟨i0, hi0, hz0, hz1, hz2⟩ := info_parts uinfo
  have HV := Lib.hid hv
  have HE := Lib.hid (Own.empty w)
  clear hv
  go_enter Tryd.func41, Tryd.ntmps41
  go_wp2_with (at_builtin; refine wpList_app _ rfl (.tmp 3) (.tmp 4) _ rfl w.heap.size 5 i0 _ Tryd.underlying27 hi0 hz0 hz1 hz2 rfl _ [] rfl HE.out _ l rfl (HV.out.alloc _) (by simp; omega) (by simp) ?_; intro v1 w1 hown1 hg1 hat1; have hb1 := below_own (below_new w _) (by simp) HE.out hg1; rw [List.nil_append] at hown1; obtain ⟨A1, n1, c1, rfl, N1, hnc1, hcm1⟩ := hown1.byt.form)
  go_ret
  have hn := N1.out
  subst hn
  exact ⟨w1.heap.size, rfl, hb1.size, ⟨A1, c1, heap_alloc_new w1 _, hown1.byt.alloc _⟩, hb1.alloc hb1.size _⟩
/-- What take of four bytes leaves. -/
def RTook (w : World) (g : Nat) (l : List UInt8) (e : Ending) (w' : World) : Prop :=
  ∃ v, e = .returned (.tuple #[v, .bool true]) ∧ Byt w' v l ∧ w.grownBy w' (some g)
theorem rcells {w : World} {g : Nat} {l : List UInt8} (h : RRdr w g l) : ∃ A c, w.cell? ⟨g, 0, none⟩ = some (.slice A l.length c) ∧ w.cell? ⟨g, 1, none⟩ = some (.int .i64 0) ∧ w.frozen? ⟨g, 0, none⟩ = false ∧ Byt w (.slice A l.length c) l ∧ g < w.heap.size ∧ ¬ (∃ off u, w.cell? ⟨g, off, none⟩ = some (.int .u8 u)) ∧ l.length ≤ c ∧ c ≤ 9223372036854775807 := by
  obtain ⟨A, c, h1, h2⟩ := h
  have h3 := h2
  obtain ⟨A', c', e, h4, h5, _⟩ := h3
  injection e with _ _ e
  subst e
  unfold maxLen at h5
  refine ⟨A, c, by rw [cell_of_row _ _ _ _ _ _ h1]; rfl, by rw [cell_of_row _ _ _ _ _ _ h1]; rfl, by simp [World.frozen?, h1], h2, (Array.getElem?_eq_some_iff.1 h1).1, ?_, h4, by omega⟩
  rintro ⟨off, u, hc⟩
  rw [cell_of_row _ _ _ _ _ _ h1] at hc
  match off, hc with
  | 0, hc => simp at hc
  | 1, hc => simp at hc
  | n + 2, hc => simp at hc
set_option maxHeartbeats 1000000 in
theorem rtake_is (w : World) (g : Nat) (l : List UInt8) (hr : RRdr w g l) (hl : l.length = 4) :
    Calls Tryd.prog 57 #[.pointer (some ⟨g, 0, none⟩), .int .i64 4] w (RTook w g l) := by
  obtain ⟨i0, hi0, hz0, hz1, hz2⟩ := info_parts uinfo
  obtain ⟨A, c, c0, c1, f0, hb, hg, hnb, hlc, hcm⟩ := rcells hr
  rw [hl] at c0 hb hlc
  obtain ⟨A1, n1, c1', r1, b1, N1, _, _⟩ := hb.uptorun 27 elemByte sizeByte 4 (by omega) .i64
  have r1' : ∀ W, (Instr.slice 27 (.slice A 4 c) none (some (.int .i64 4)) none).run Tryd.prog W = .ok (.slice A1 n1 c1') W := r1
  obtain ⟨A2, n2, c2, r2, b2, N2, _, _⟩ := hb.cutrun 27 elemByte sizeByte 4 (by omega) .i64
  have r2' : ∀ W, (Instr.slice 27 (.slice A 4 c) (some (.int .i64 4)) none none).run Tryd.prog W = .ok (.slice A2 n2 c2) W := r2
  have HE := Lib.hid (Own.empty w)
  have B1 : Hid (Byt w (.slice A1 n1 c1') l) := by rw [List.take_of_length_le (by omega)] at b1; exact b1
  have HG := Lib.hid hg
  have HNB := Lib.hid hnb
  have HC : Hid (∀ w1, Below w.heap.size w w1 → w1.cell? ⟨g, 0, none⟩ = some (.slice A 4 c)) := fun w1 h => (h.cell (p := ⟨g, 0, none⟩) hg).trans c0
  have HF : Hid (∀ w1, Below w.heap.size w w1 → w1.frozen? ⟨g, 0, none⟩ = false) := fun w1 h => (h.frozen (p := ⟨g, 0, none⟩) hg).trans f0
  clear hr hb hg hnb r1 r2 b1 b2
  go_enter Tryd.func57, Tryd.ntmps57
  have q0 := HC.out _ (below_new w (.cells #[] 5))
  go_wp2_with (at_builtin; refine wpList_app _ rfl (.tmp 29) (.tmp 35) _ rfl w.heap.size 5 i0 _ Tryd.underlying27 hi0 hz0 hz1 hz2 rfl _ [] rfl HE.out _ l rfl (B1.out.alloc _) (by simp; omega) (by simp) ?_; intro v1 w1 hown1 hg1 hat1; have hb1 := below_own (below_new w _) (by simp) HE.out hg1; rw [List.nil_append] at hown1; have d0 := HC.out w1 hb1; have e0 := HF.out w1 hb1; obtain ⟨A3, n3, c3, rfl, N3, hnc3, hcm3⟩ := hown1.byt.form; clear hg1 hat1)
  go_ret2
  refine ⟨_, rfl, hown1.byt.keep (by rw [setCell_size]; exact Nat.le_refl _) (fun b hb hu => ?_), ?_⟩
  · have hne : b ≠ g := by
      rintro rfl
      obtain ⟨off, u, hc⟩ := hu
      exact HNB.out ⟨off, u, by rw [← hb1.cell (p := ⟨b, off, none⟩) HG.out]; exact hc⟩
    rw [heap_cell_other hne]
  · exact grown_trans (grown_below hb1) (grown_set _ _ _ _)
theorem word_add (m : List UInt8) (k : Nat) (hk : k < m.length) : wordN (m.take (k + 1)) = wordN (m.take k) + m[k].toNat * 256 ^ k := by
  rw [List.take_succ_eq_append_getElem hk, wordN_snoc, List.length_take, Nat.min_eq_left (by omega)]
theorem wrap_add (k a x : Nat) (hk : k < 4) (hx : x < 256) (ha : a < 256 ^ k) : IntKind.u64.wrap ((a : Int) + IntKind.u64.wrap ((x : Int) * 2 ^ (8 * k))) = ((a + x * 256 ^ k : Nat) : Int) := by
  have hk4 : k = 0 ∨ k = 1 ∨ k = 2 ∨ k = 3 := by omega
  rcases hk4 with rfl | rfl | rfl | rfl <;> simp only [IntKind.wrap_u64] <;> simp at ha ⊢ <;> omega
set_option maxRecDepth 100000 in
set_option maxHeartbeats 2000000 in
theorem rrword_is (w : World) (g : Nat) (l : List UInt8) (hr : RRdr w g l) (hl : l.length = 4) :
    Calls Tryd.prog 42 #[.pointer (some ⟨g, 0, none⟩), .int .i64 4] w fun e w' => e = .returned (.int .u64 (wordN l : Int)) ∧ w.grownBy w' (some g) := by
  obtain ⟨A, c, c0, c1, f0, hb, hg, hnb, hlc, hcm⟩ := rcells hr
  have HT := Lib.hid (rtake_is w g l hr hl)
  clear hr hb hg hnb f0 c0
  go_enter Tryd.func42, Tryd.ntmps42
  go_wp2_with fail
  refine HT.out.mono ?_
  rintro e w1 ⟨v1, rfl, hb1, hg1⟩
  have HB := Lib.hid hb1
  have HG := Lib.hid hg1
  obtain ⟨A1, n1, c1', rfl, N1, hnc1, hcm1⟩ := hb1.form
  obtain rfl : n1 = 4 := N1.out.trans hl
  have HL := Lib.hid hl
  clear hb1 hg1 N1 c1
  go_wp2_with fail
  go_loop [7, 8] (fun n i => RWRel l n i) (fun _ i => 4 - (intOf i).toNat)
  case atStart => exact ⟨0, by omega, rfl, rfl⟩
  case round =>
    obtain ⟨k, hk, rfl, rfl⟩ := hrel
    have hl4 := HL.out
    by_cases hlt : k < l.length
    · obtain ⟨b, off, rfl, hb, hc⟩ := HB.out.at hlt
      have hcell := hc k hlt
      have hst := word_add l k hlt
      have hx : l[k].toNat < 256 := l[k].toNat_lt
      have ha := wordN_lt (l.take k)
      rw [List.length_take, Nat.min_eq_left (by omega)] at ha
      clear hc hb
      generalize l[k].toNat = x at *
      have HS := Lib.hid hst
      have HWA := Lib.hid (wrap_add k _ _ (by omega) hx ha)
      clear hst ha
      generalize wordN (l.take k) = a at *
      go_wp2
      rw [HWA.out]
      exact ⟨⟨k + 1, by omega, by go_num, by rw [HS.out]⟩, by simp [intOf]; omega⟩
    · have hfin : l.take k = l := List.take_of_length_le (by omega)
      obtain rfl : k = 4 := by omega
      rw [hfin]
      go_wp2
      go_ret
      exact ⟨rfl, HG.out⟩
end Go.Proofs.YtknagdbhhfelnaaDoor
