/-
  Acts in variables, an act's bytes, 'small', by their contracts. Conditions: none.
-/
import Derived.Test.YtmdppdpoogbeaaaSecP
namespace Go.Proofs.Ytmdppdpoogbeaaa
open Go.RowKit Go.Maps

/-- Block g is this act, as a variable. -/
def ABlk (w : World) (g : Nat) (a : ActD) : Prop := w.heap[g]? = some (.cells (actV a) 36)
theorem ABlk.lt {w : World} {g : Nat} {a : ActD} (h : ABlk w g a) : g < w.heap.size := (Array.getElem?_eq_some_iff.1 h).1
theorem ABlk.below {w w' : World} {g : Nat} {a : ActD} (h : ABlk w g a) (hb : Below w.heap.size w w') : ABlk w' g a := (hb.block g h.lt).trans h
theorem ABlk.trn {w w' : World} {S : Nat → Prop} {g : Nat} {a : ActD} (h : ABlk w g a) (ht : Trn S w w') (hn : ¬ S g) : ABlk w' g a := (ht.block g h.lt hn).trans h
theorem ABlk.cells {w : World} {g : Nat} {a : ActD} (h : ABlk w g a) :
    w.cell? ⟨g, 0, none⟩ = some (.int .i64 a.kind) ∧ w.cell? ⟨g, 1, none⟩ = some (.int .i64 a.pl) ∧ w.cell? ⟨g, 2, none⟩ = some (.int .u8 (a.v.toNat : Int)) ∧ w.cell? ⟨g, 3, none⟩ = some (.int .u8 (a.b.toNat : Int)) ∧ w.cell? ⟨g, 4, none⟩ = some (.int .i64 a.n) ∧
    w.cell? ⟨g, 5, none⟩ = some a.vk ∧ w.cell? ⟨g, 6, none⟩ = some (.int .i64 a.torn) ∧ w.cell? ⟨g, 7, none⟩ = some (.int .i64 a.bytes) := by
  refine ⟨?_, ?_, ?_, ?_, ?_, ?_, ?_, ?_⟩ <;> (rw [cell_of_row _ _ _ _ _ _ h]; rfl)
theorem actSize : (Try.prog.info? 36).map (·.size) = some 8 := by kernel_rfl
theorem crashSize : (Try.prog.info? 34).map (·.size) = some 3 := by kernel_rfl
theorem act_one {w : World} {a : ActD} (h : OkAct w a) : (actV a).all (·.oneCell') = true := by
  obtain ⟨A, n, c, e, _⟩ := h.keep.form
  simp [actV, actL, e, Value.oneCell']
/-- A whole struct out of its cells. -/
theorem loadVar_at {w : World} {t : TypeId} {fs : Array Field} (hu : Try.prog.underlying t = some (.struct fs)) {cs : List Value} (hi : (Try.prog.info? t).map (·.size) = some cs.length) {b off : Nat} (hc : ∀ i x, cs[i]? = some x → w.cell? ⟨b, off + i, none⟩ = some x) :
    (loadVar t ⟨b, off, none⟩).run Try.prog w = .ok (.agg cs.toArray) w := by
  have h1 := run_loadCells_list (P := Try.prog) w ⟨b, off, none⟩ cs (fun j v hv => by
    rw [plainAdd]
    exact hc j v hv)
  have hagg : (isAgg t).run Try.prog w = .ok true w := by
    unfold isAgg
    rw [Sem.run_bind, run_underlying hu w]
    rfl
  have hsz : (sizeOf t).run Try.prog w = .ok cs.length w := by
    cases hq : Try.prog.info? t with
    | none => simp [hq] at hi
    | some i => simp [hq] at hi; simp [sizeOf, typeInfo, hq, hi]
  unfold loadVar
  simp only [Sem.run_bind, hagg, Result.andThen_ok, if_true, hsz, h1, Sem.run_pure]
section
variable {ops : Array Oper} {rest : List Oper} {o : Oper} {a : Act} {w : World} {K : Act → World → Prop} {Q : Exit → Act → World → Prop}
theorem exec_loadAt {t : TypeId} {fs : Array Field} (hu : Try.prog.underlying t = some (.struct fs)) {cs : List Value} (hi : (Try.prog.info? t).map (·.size) = some cs.length) (x : Operand) (ho : o.op = .load t x) (b off : Nat) (hx : a.eval x = .pointer (some ⟨b, off, none⟩))
    (hc : ∀ i y, cs[i]? = some y → w.cell? ⟨b, off + i, none⟩ = some y) : (execOp a.eval o).run Try.prog w = .ok (.value (.agg cs.toArray)) w := by
  unfold execOp
  simp only [ho, hx, Instr.loadAt, Instr.sureAddr, Sem.run_bind, Sem.run_pure, Result.andThen_ok, loadVar_at hu hi hc]
theorem wpList_loadAt {t : TypeId} {fs : Array Field} (hu : Try.prog.underlying t = some (.struct fs)) {cs : List Value} (hi : (Try.prog.info? t).map (·.size) = some cs.length) (hgd : o.guard = none) (x : Operand) (ho : o.op = .load t x) (b off : Nat) (hx : a.eval x = .pointer (some ⟨b, off, none⟩))
    (hc : ∀ i y, cs[i]? = some y → w.cell? ⟨b, off + i, none⟩ = some y) (hK : wpList Try.prog ops Q rest (a.put o.dst (.agg cs.toArray)) w) : wpList Try.prog ops Q (o :: rest) a w := by
  refine wpList_plain hgd fun K hk => ?_
  unfold Oper.wp
  rw [exec_loadAt hu hi x ho b off hx hc]
  exact hk _ _ hK
theorem wpList_storeAct {w1 : World} (zc : Array Value) (hz : zc.size = 8) (u : ActD) (h1 : (actV u).all (·.oneCell') = true) (hgd : o.guard = none) (x y : Operand) (ho : o.op = .store 36 x y) (hx : a.eval x = .pointer (some ⟨w1.heap.size, 0, none⟩)) (hy : a.eval y = .agg (actV u))
    (hK : ∀ w', ABlk w' w1.heap.size u → Below w1.heap.size w1 w' → wpList Try.prog ops Q rest (a.put o.dst undef) w') : wpList Try.prog ops Q (o :: rest) a (w1.alloc (.cells zc 36)) := by
  refine wpList_store_row hgd 36 x y ho w1.heap.size (actV u) hx hy 36 zc (heap_alloc_new w1 _) actSize hz h1 ?_
  rw [World.setRow_alloc_new]
  exact hK _ (heap_alloc_new w1 _) (below_new w1 _)
end
theorem ABlk.load {w : World} {g : Nat} {a : ActD} (h : ABlk w g a) : ∀ i y, (actL a)[i]? = some y → w.cell? ⟨g, 0 + i, none⟩ = some y := by
  intro i y hy
  rw [Nat.zero_add, cell_of_row _ _ _ _ _ _ h]
  simpa [actV] using hy
theorem ABlk.loadC {w : World} {g : Nat} {a : ActD} (h : ABlk w g a) : ∀ i y, [a.vk, .int .i64 a.torn, .int .i64 a.bytes][i]? = some y → w.cell? ⟨g, 5 + i, none⟩ = some y := by
  intro i y hy
  rw [cell_of_row _ _ _ _ _ _ h]
  match i, hy with
  | 0, hy => simpa [actV, actL] using hy
  | 1, hy => simpa [actV, actL] using hy
  | 2, hy => simpa [actV, actL] using hy

def actB (a : ActD) : List UInt8 := (rowB a.v).set a.b.toNat a.b
theorem actB_len (a : ActD) : (actB a).length = 512 := by unfold actB; rw [List.length_set, rowB_len]
set_option maxRecDepth 100000 in
set_option maxHeartbeats 1000000 in
theorem lbytes_any (w : World) (a : ActD) (h1 : OkAct w a) : Calls Try.prog 19 #[.agg (actV a)] w (Made w (actB a)) := by
  obtain ⟨A, n, c, e, _⟩ := h1.keep.form
  have hbk : ABlk (w.alloc (.cells (actV a) 36)) w.heap.size a := heap_alloc_new w _
  have HBK := Lib.hid hbk
  obtain ⟨_, _, c2, c3, _, _, _, _⟩ := hbk.cells
  have HB0 := Lib.hid (below_new w (.cells (actV a) 36))
  have hx : a.b.toNat < 256 := a.b.toNat_lt
  clear h1 hbk
  unfold actV actL at *
  go_enter Try.func19, Try.ntmps19
  rw [e] at *
  go_wp2_with fail
  refine (lrow_any _ a.v).mono ?_
  rintro e' w1 ⟨v1, rfl, hown1, hb1⟩
  obtain ⟨g, cap, rfl, hge, hcap⟩ : ∃ g cap, v1 = .slice (some ⟨g, 0, none⟩) 512 cap ∧ w.heap.size + 1 ≤ g ∧ 512 ≤ cap ∧ cap ≤ 9223372036854775807 := by
    rcases hown1.2 with ⟨_, h0⟩ | ⟨g, cap, cur, h1, h2, h3, h4, h5, _⟩
    · rw [rowB_len] at h0; omega
    · unfold maxLen at h5
      rw [rowB_len] at h4 h1
      exact ⟨g, cap, h1, by simpa using h2, h4, by omega⟩
  unfold Own at hown1
  rw [rowB_len] at hown1
  have hblk1 := (hb1.block w.heap.size (by simp)).trans HBK.out
  have d3 : w1.cell? ⟨w.heap.size, 3, none⟩ = some (.int .u8 (a.b.toNat : Int)) := by rw [cell_of_row _ _ _ _ _ _ hblk1]; rfl
  have hc : w1.cell? ⟨g, a.b.toNat, none⟩ = some (.int .u8 (a.v.toNat : Int)) := by
    rw [hown1.cellAt a.b.toNat (by omega)]
    unfold byc rowB
    rw [List.map_replicate, List.getElem?_replicate, if_pos (by omega)]
  have hf := hown1.frozenAt a.b.toNat
  have HS := Lib.hid (hown1.stored a.b.toNat (.int .u8 (a.b.toNat : Int))).1
  have HB1 := Lib.hid (HB0.out.trans (hb1.mono (by simp)))
  have hx2 : (a.b.toNat : Int) < 512 := by omega
  have HX : Hid ((byc (rowB a.v)).set a.b.toNat (.int .u8 (a.b.toNat : Int)) = byc (actB a)) := by
    rw [Hid]; unfold actB byc; rw [List.map_set]
  clear hown1 hb1 hblk1 c2 c3
  generalize a.b.toNat = y at *
  go_wp2_with fail
  go_ret
  refine made_mk ?_ (HB1.out.setCell (by simp only; omega) _)
  unfold Own
  rw [actB_len, ← HX.out]
  exact ownsRow_low HS.out (by simp)

def smallA (n : Nat) (f : Nat → ActD) : Prop := n ≤ 80 ∧ ∀ j, j < n → (f j).keep.length ≤ 100
def Smalled (w : World) (n : Nat) (f : Nat → ActD) (e : Ending) (w' : World) : Prop := ∃ b, e = .returned (.bool b) ∧ (b = true ↔ smallA n f) ∧ Below w.heap.size w w'
def SmallRel (w : World) (n : Nat) (f : Nat → ActD) (i : Value) (wr : World) : Prop := ∃ k : Nat, k ≤ n ∧ k ≤ 81 ∧ i = .int .i64 (k : Int) ∧ (∀ j, j < k → (f j).keep.length ≤ 100) ∧ Below w.heap.size w wr
theorem light_next {f : Nat → ActD} {k : Nat} (h : ∀ j, j < k → (f j).keep.length ≤ 100) (hk : (f k).keep.length ≤ 100) : ∀ j, j < k + 1 → (f j).keep.length ≤ 100 := by
  intro j hj
  by_cases h' : j < k
  · exact h j h'
  · obtain rfl : j = k := by omega
    exact hk
set_option maxRecDepth 100000 in
set_option maxHeartbeats 1000000 in
theorem small_any (w : World) (v : Value) (n : Nat) (f : Nat → ActD) (hv : Acts w v n f) :
    Calls Try.prog 5 #[v] w (Smalled w n f) := by
  obtain ⟨A, c, rfl, hnc, hcm⟩ := hv.form
  have HV := Lib.hid hv
  clear hv
  go_enter Try.func5, Try.ntmps5
  go_wp2_with fail
  go_loopw [3] (fun i wr => SmallRel w n f i wr) (fun i _ => n - (intOf i).toNat)
  case atStart => exact ⟨0, by omega, by omega, rfl, fun j hj => by omega, Below.refl _ _⟩
  case round =>
    obtain ⟨k, hk, hk81, rfl, hall, hbel⟩ := hrel
    have HB := Lib.hid hbel
    have HA := Lib.hid hall
    by_cases hlt : k < n
    · have hkn : (k : Int) < (n : Int) := by omega
      by_cases h80 : k ≤ 80
      · have hk80 : (k : Int) ≤ 80 := by omega
        obtain ⟨b, off, rfl, hb, hc, ha⟩ := (HV.out.below hbel).at hlt
        have HC : Hid (∀ i y, [(f k).vk, .int .i64 (f k).torn, .int .i64 (f k).bytes][i]? = some y → wr.cell? ⟨b, off + k * 8 + 5 + i, none⟩ = some y) := fun i y hy => by
          have := hc (5 + i) y (by
            match i, hy with
            | 0, hy => simpa [actL] using hy
            | 1, hy => simpa [actL] using hy
            | 2, hy => simpa [actL] using hy)
          rw [← Nat.add_assoc] at this
          exact this
        have LC := Lib.hid (light_any wr (f k).vk (f k).keep (f k).torn (f k).bytes 100 ha.keep)
        clear hc ha hb hall hbel
        have HE : Hid (crashV (f k).vk (f k).torn (f k).bytes = [(f k).vk, .int .i64 (f k).torn, .int .i64 (f k).bytes].toArray) := rfl
        rw [HE.out] at LC
        by_cases hl : (f k).keep.length ≤ 100
        · rw [show decide (((f k).keep.length : Int) ≤ 100) = true by simp; omega] at LC
          have HL := Lib.hid hl
          clear hl
          generalize (f k).vk = vk at *
          generalize (f k).torn = to at *
          generalize (f k).bytes = by_ at *
          go_wp2_with (refine wpList_loadAt Try.underlying34 (cs := [vk, .int .i64 to, .int .i64 by_]) crashSize rfl _ rfl b (off + k * 8 + 5) rfl HC.out ?_)
          refine LC.out.mono ?_
          rintro e w1 ⟨rfl, hb1⟩
          have HB1 := Lib.hid (HB.out.trans (hb1.mono HB.out.size))
          clear hb1
          go_wp2_with fail
          go_roundw
          case rel => exact ⟨k + 1, by omega, by omega, by go_num, light_next HA.out HL.out, HB1.out⟩
          case measure => simp [intOf]; omega
        · rw [show decide (((f k).keep.length : Int) ≤ 100) = false by simp; omega] at LC
          have HF : Hid (¬ smallA n f) := fun h => hl (h.2 k hlt)
          clear hl
          generalize (f k).vk = vk at *
          generalize (f k).torn = to at *
          generalize (f k).bytes = by_ at *
          go_wp2_with (refine wpList_loadAt Try.underlying34 (cs := [vk, .int .i64 to, .int .i64 by_]) crashSize rfl _ rfl b (off + k * 8 + 5) rfl HC.out ?_)
          refine LC.out.mono ?_
          rintro e w1 ⟨rfl, hb1⟩
          have HB1 := Lib.hid (HB.out.trans (hb1.mono HB.out.size))
          clear hb1
          go_wp2_with fail
          go_ret
          exact ⟨false, rfl, ⟨fun h => (by cases h), fun h => absurd h HF.out⟩, HB1.out⟩
      · have hk80 : ¬ (k : Int) ≤ 80 := by omega
        have hn80 : ¬ (n : Int) ≤ 80 := by omega
        have HF : Hid (¬ smallA n f) := fun h => by have := h.1; omega
        clear hall hbel
        go_wp2_with fail
        go_ret
        exact ⟨false, rfl, ⟨fun h => (by cases h), fun h => absurd h HF.out⟩, HB.out⟩
    · have hkn : ¬ (k : Int) < (n : Int) := by omega
      obtain rfl : k = n := by omega
      clear hall hbel
      go_wp2_with fail
      go_ret
      exact ⟨decide ((k : Int) ≤ 80), rfl, ⟨fun h => ⟨by have := of_decide_eq_true h; omega, HA.out⟩, fun h => by have := h.1; simp; omega⟩, HB.out⟩
end Go.Proofs.Ytmdppdpoogbeaaa
