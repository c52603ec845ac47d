/-
  Package crc's table, and the document's own, by their contracts. Conditions: none.
-/
import Derived.Test.YtagchbpofoidmaaDoorMade
import Derived.Test.YtagchbpofoidmaaDoorCrc
import Derived.Deep.WholeRow
namespace Go.Proofs.YtagchbpofoidmaaDoor
open Go.RowKit
set_option maxRecDepth 100000

/-! The walk's words. -/
theorem c_and1 (x : Nat) (hx : x < 4294967296) : bits .and .u32 (x : Int) 1 = ((x % 2 : Nat) : Int) := by
  have h := u32_and_nat x 1 hx (by omega)
  rw [show (x &&& 1) = x % 2 from by rw [show 1 = 2 ^ 1 - 1 from rfl, Nat.and_two_pow_sub_one_eq_mod]] at h
  exact h
theorem c_poly (x : Nat) (hx : x < 4294967296) : bits .xor .u32 ((x : Int) / 2) 2197175160 = ((x / 2 ^^^ 2197175160 : Nat) : Int) := by
  have h := u32_xor_nat (x / 2) 2197175160 (by omega) (by omega)
  rw [show ((x / 2 : Nat) : Int) = (x : Int) / 2 by omega] at h
  exact h

def CWordRel (x : Nat) (s i : Value) : Prop := ∃ k : Nat, k ≤ 8 ∧ i = .int .i64 (k : Int) ∧ s = .int .u32 (iterC k x : Int)

set_option maxHeartbeats 1000000 in
theorem crcword_any (x : Nat) (w : World) (hx : x < 4294967296) :
    Calls Tryd.prog 87 #[.int .u32 (x : Int)] w fun e w' => e = .returned (.int .u32 (wordC x : Int)) ∧ w = w' := by
  have HX := Lib.hid hx
  clear hx
  go_enter Tryd.func87, Tryd.ntmps87
  go_wp2_with fail
  go_loop [0, 4] (fun s i => CWordRel x s i) (fun _ i => 8 - (intOf i).toNat)
  case atStart => exact ⟨0, by omega, rfl, rfl⟩
  case round =>
    obtain ⟨k, hk, rfl, rfl⟩ := hrel
    have HY := Lib.hid (iterC_lt k HX.out)
    have HS := Lib.hid (iterC_snoc k x)
    generalize hy : iterC k x = y at *
    have HA := c_and1 y HY.out
    have HP := Lib.hid (c_poly y HY.out)
    by_cases h8 : k = 8
    · subst h8
      go_wp2_with fail
      go_ret
      exact ⟨ret_int (by rw [← hy]; rfl), rfl⟩
    · have h8' : (k : Int) < 8 := by omega
      rcases Nat.mod_two_eq_zero_or_one y with ho | ho
      · rw [ho] at HA
        have ht : bitC y = y / 2 := by unfold bitC; rw [if_neg (by omega)]
        rw [ht] at HS
        go_wp2_with fail
        go_round
        case rel => exact ⟨k + 1, by omega, by go_num, by rw [HS.out]; go_num⟩
        case measure => simp [intOf]; omega
      · rw [ho] at HA
        have ht : bitC y = y / 2 ^^^ 2197175160 := by unfold bitC; rw [if_pos ho]
        rw [ht] at HS
        go_wp2_with fail
        go_round
        case rel => exact ⟨k + 1, by omega, by go_num, by rw [HS.out, HP.out]⟩
        case measure => simp [intOf]; omega

/-! Tables by value. -/
def tabV (t : List Nat) : Array Value := (t.map fun (n : Nat) => Value.int .u32 (n : Int)).toArray
theorem tabV_size (t : List Nat) : (tabV t).size = t.length := by simp [tabV]
theorem tabV_one (t : List Nat) : (tabV t).all (·.oneCell') = true := by simp [tabV, Value.oneCell']
theorem tabInfo : (Tryd.prog.info? 101).map (fun i => (i.zero, i.size)) = some (some (.agg (tabV (List.replicate 256 0))), 256) := by kernel_rfl
theorem tabZero : ∀ w, (zeroValue 101).run Tryd.prog w = .ok (.agg (tabV (List.replicate 256 0))) w := (zero_of_info tabInfo).1
theorem tabSize : (Tryd.prog.info? 101).map (·.size) = some 256 := (zero_of_info tabInfo).2

/-- Block g is this table. -/
def ATab (w : World) (g : Nat) (t : List Nat) : Prop := w.heap[g]? = some (.cells (tabV t) 101)
theorem ATab.new (w : World) (t : List Nat) : ATab (w.alloc (.cells (tabV t) 101)) w.heap.size t := heap_alloc_new w _
theorem ATab.lt {w : World} {g : Nat} {t : List Nat} (h : ATab w g t) : g < w.heap.size := (Array.getElem?_eq_some_iff.1 h).1
theorem ATab.block {w w' : World} {g : Nat} {t : List Nat} (h : ATab w g t) (hb : w'.heap[g]? = w.heap[g]?) : ATab w' g t := hb.trans h
theorem ATab.below {w w' : World} {g : Nat} {t : List Nat} (h : ATab w g t) (hb : Below w.heap.size w w') : ATab w' g t := h.block (hb.block g h.lt)
theorem ATab.alloc {w : World} {g : Nat} {t : List Nat} (h : ATab w g t) (o : Obj) : ATab (w.alloc o) g t := h.below (below_new w o)
theorem ATab.cell {w : World} {g : Nat} {t : List Nat} (h : ATab w g t) (k : Nat) (hk : k < t.length) : w.cell? ⟨g, k, none⟩ = some (.int .u32 (t.getD k 0 : Int)) := by
  rw [cell_of_row _ _ _ _ _ _ h]
  simp [tabV, hk]
theorem ATab.frozen {w : World} {g : Nat} {t : List Nat} (h : ATab w g t) (k : Nat) : w.frozen? ⟨g, k, none⟩ = false := by
  unfold ATab at h
  simp [World.frozen?, h]
theorem ATab.set {w : World} {g : Nat} {t : List Nat} (h : ATab w g t) (k x : Nat) : ATab (w.setCell ⟨g, k, none⟩ (.int .u32 (x : Int))) g (t.set k x) := by
  unfold ATab at h ⊢
  simp [World.setCell, Array.getElem?_modify, h, List.map_set, tabV]
theorem ATab.notByte {w : World} {g : Nat} {t : List Nat} (h : ATab w g t) : ¬ ∃ off u, w.cell? ⟨g, off, none⟩ = some (.int .u8 u) := by
  rintro ⟨off, u, hc⟩
  rw [cell_of_row _ _ _ _ _ _ h] at hc
  simp [tabV] at hc
/-- The whole table out of its block, as the walk meets it. -/
theorem ATab.load {w : World} {g : Nat} {t : List Nat} (h : ATab w g t) (ht : t.length = 256) : (loadCellsFrom ⟨g, 0, none⟩ 0 256 #[]).run Tryd.prog w = .ok (tabV t) w := by
  have := run_loadCells_list (P := Tryd.prog) w ⟨g, 0, none⟩ (tabV t).toList (fun j v hv => by
    rw [plainAdd, Nat.zero_add, cell_of_row _ _ j _ _ _ h]
    simpa using hv)
  simpa [loadCells, tabV_size, ht] using this
theorem ATab.loadVar {w : World} {g : Nat} {t : List Nat} (h : ATab w g t) (ht : t.length = 256) : (loadVar 101 ⟨g, 0, none⟩).run Tryd.prog w = .ok (.agg (tabV t)) w :=
  run_loadVar_row w g _ _ (tabV t) (0, 0) _ h Tryd.underlying101 rfl (by rw [tabV_size, ht]; exact tabSize)
/-- A whole table into its block. -/
theorem ATab.store {w : World} {g : Nat} {t u : List Nat} (h : ATab w g t) (ht : t.length = 256) (hu : u.length = 256) :
    ∃ w', (storeCells ⟨g, 0, none⟩ (tabV u).toList 0).run Tryd.prog w = .ok () w' ∧ ATab w' g u ∧ (∀ B a, Below B a w → B ≤ g → Below B a w') ∧ w'.heap.size = w.heap.size := by
  have hr := run_storeCells_from (P := Tryd.prog) g _ (tabV u).toList 0 _ w h (by simp [tabV_size, ht, hu]) (fun v hv => (Array.all_eq_true_iff_forall_mem.1 (tabV_one u)) v (by simpa using hv))
  have hs : (w.setRow g (tabV u)).heap.size = w.heap.size := by simp [World.setRow]
  refine ⟨w.setRow g (tabV u), ?_, setRow_heap w g _ _ _ _ h, fun B a hb hB => ⟨hb.os, hb.tape, hb.output, by rw [hs]; exact hb.size, fun k hk => ?_⟩, hs⟩
  · rw [hr]
    simp
  · rw [← hb.block k hk]
    simp only [World.setRow]
    rw [Array.getElem?_modify, if_neg (by omega)]

section
variable {ops : Array Oper} {rest : List Oper} {o : Oper} {a : Act} {w : World} {K : Act → World → Prop} {Q : Exit → Act → World → Prop}
/-- The operation that reads a whole table. -/
theorem wp_loadTab (x : Operand) (ho : o.op = .load 101 x) (g : Nat) (hx : a.eval x = .pointer (some ⟨g, 0, none⟩)) (t : List Nat) (h : ATab w g t) (ht : t.length = 256)
    (hK : K (a.put o.dst (.agg (tabV t))) w) : o.wp Tryd.prog a w K Q :=
  wp_load_row 101 x ho g hx 101 (tabV t) (0, 0) _ h Tryd.underlying101 rfl (by rw [tabV_size, ht]; exact tabSize) hK
/-- .. as a region that draws its order asks for it. -/
theorem exec_loadTab {u : World} (x : Operand) (ho : o.op = .load 101 x) (g : Nat) (hx : a.eval x = .pointer (some ⟨g, 0, none⟩)) {t : List Nat} (h : ATab u g t) (ht : t.length = 256) :
    (execOp a.eval o).run Tryd.prog u = .ok (.value (.agg (tabV t))) u := by
  unfold execOp
  simp only [ho, hx, Instr.loadAt, Instr.sureAddr, Sem.run_bind, Sem.run_pure, Result.andThen_ok, h.loadVar ht]
theorem wpList_loadTab (hgd : o.guard = none) (x : Operand) (ho : o.op = .load 101 x) (g : Nat) (hx : a.eval x = .pointer (some ⟨g, 0, none⟩)) (t : List Nat) (h : ATab w g t) (ht : t.length = 256)
    (hK : wpList Tryd.prog ops Q rest (a.put o.dst (.agg (tabV t))) w) : wpList Tryd.prog ops Q (o :: rest) a w :=
  wpList_plain hgd fun _ hk => wp_loadTab x ho g hx t h ht (hk _ _ hK)
/-- The operation that writes a whole table. -/
theorem wpList_storeTab (hgd : o.guard = none) (x y : Operand) (ho : o.op = .store 101 x y) (g : Nat) (hx : a.eval x = .pointer (some ⟨g, 0, none⟩)) (u : List Nat) (hy : a.eval y = .agg (tabV u)) (t : List Nat) (h : ATab w g t) (ht : t.length = 256) (hu : u.length = 256)
    (hK : ∀ w', ATab w' g u → (∀ B a, Below B a w → B ≤ g → Below B a w') → (∀ k, k ≠ g → w'.heap[k]? = w.heap[k]?) → w'.heap.size = w.heap.size → wpList Tryd.prog ops Q rest (a.put o.dst undef) w') : wpList Tryd.prog ops Q (o :: rest) a w := by
  have hs : (w.setRow g (tabV u)).heap.size = w.heap.size := by simp [World.setRow]
  have hne : ∀ k, k ≠ g → (w.setRow g (tabV u)).heap[k]? = w.heap[k]? := fun k hk => by
    simp only [World.setRow]
    rw [Array.getElem?_modify, if_neg (by omega)]
  exact wpList_store_row hgd 101 x y ho g (tabV u) hx hy 101 (tabV t) h (by rw [tabV_size, hu]; exact tabSize) (by rw [tabV_size, tabV_size, ht, hu]) (tabV_one u)
    (hK _ (setRow_heap w g _ _ _ _ h) (fun B a hb hB => ⟨hb.os, hb.tape, hb.output, by rw [hs]; exact hb.size, fun k hk => by rw [← hb.block k hk]; exact hne k (by omega)⟩) hne hs)
/-- .. into a variable that was just made. -/
theorem wpList_storeNew {w1 : World} (t : List Nat) (ht : t.length = 256) (u : List Nat) (hu : u.length = 256) (hgd : o.guard = none) (x y : Operand) (ho : o.op = .store 101 x y) (hx : a.eval x = .pointer (some ⟨w1.heap.size, 0, none⟩)) (hy : a.eval y = .agg (tabV u))
    (hK : ∀ w', ATab w' w1.heap.size u → Below w1.heap.size w1 w' → w1.heap.size < w'.heap.size → wpList Tryd.prog ops Q rest (a.put o.dst undef) w') : wpList Tryd.prog ops Q (o :: rest) a (w1.alloc (.cells (tabV t) 101)) :=
  wpList_storeTab hgd x y ho w1.heap.size hx u hy t (ATab.new w1 t) ht hu fun w' h1 h2 _ _ => hK w' h1 (h2 _ _ (below_new w1 _) (Nat.le_refl _)) h1.lt
/-- A table as a call's answer. -/
theorem ret_tab {fn : Func} {p : Tmp} {Post : Ending → World → Prop} (g : Nat) (hd : a.defers = []) (h : fn.results = #[.cell p 101]) (hp : a.tmps.getD p undef = .pointer (some ⟨g, 0, none⟩)) {t : List Nat} (hg : ATab w g t) (ht : t.length = 256)
    (hpost : Post (.returned (.agg (tabV t))) w) : bodyPost Tryd.prog fn Post .ret a w :=
  bodyPost_ret (v := .agg (tabV t)) (results_cell_row h _ w g _ _ (0, 0) _ hp hg Tryd.underlying101 rfl (by rw [tabV_size, ht]; exact tabSize)) hd hpost
end

/-- The table, as far as it has been laid. -/
def tabTo (k : Nat) : List Nat := tabC.take k ++ List.replicate (256 - k) 0
theorem tabTo_len (k : Nat) (hk : k ≤ 256) : (tabTo k).length = 256 := by
  unfold tabTo
  rw [List.length_append, List.length_take, List.length_replicate, tabC_tab.1]
  omega
theorem to_set (tc : List Nat) (hl : tc.length = 256) (k x : Nat) (hk : k < 256) (hg : tc.getD k 0 = x) : (tc.take k ++ List.replicate (256 - k) 0).set k x = tc.take (k + 1) ++ List.replicate (256 - (k + 1)) 0 := by
  have hkl : k < tc.length := by omega
  rw [List.getD_eq_getElem?_getD, List.getElem?_eq_getElem hkl] at hg
  have hg' : tc[k] = x := hg
  rw [List.set_append_right _ _ (by rw [List.length_take]; omega), List.length_take, Nat.min_eq_left (by omega), Nat.sub_self, show 256 - k = (256 - (k + 1)) + 1 by omega, List.replicate_succ, List.set_cons_zero,
    List.take_succ_eq_append_getElem hkl, List.append_assoc, hg']
  rfl
theorem tabTo_set (k : Nat) (hk : k < 256) : (tabTo k).set k (wordC k) = tabTo (k + 1) := to_set tabC tabC_tab.1 k (wordC k) hk (tabC_at hk)
theorem tabTo_all : tabTo 256 = tabC := by
  unfold tabTo
  rw [List.take_of_length_le (by rw [tabC_tab.1]; omega)]
  simp
theorem tabTo_none : List.replicate 256 0 = tabTo 0 := rfl

def TableRel (w : World) (i : Value) (wr : World) : Prop :=
  ∃ k : Nat, k ≤ 256 ∧ i = .int .i64 (k : Int) ∧ ATab wr (w.heap.size + 1) (tabTo k) ∧ ATab wr w.heap.size (tabTo 0) ∧ Below w.heap.size w wr
/-- What a call that answers a table leaves. -/
def Tabled (w : World) (t : List Nat) (e : Ending) (w' : World) : Prop := e = .returned (.agg (tabV t)) ∧ Below w.heap.size w w'

set_option maxRecDepth 100000 in
set_option maxHeartbeats 1000000 in
theorem crctable_any (w : World) : Calls Tryd.prog 79 #[] w (Tabled w tabC) := by
  have Z := tabZero
  rw [tabTo_none] at Z
  have ZS : (tabV (tabTo 0)).size = 256 := by rw [tabV_size, tabTo_len 0 (by omega)]
  have S1 := run_storeCells_new (P := Tryd.prog) (w.alloc (.cells (tabV (tabTo 0)) 101)) 101 (tabV (tabTo 0)) (tabV (tabTo 0)) (by rw [ZS]; exact tabSize) rfl (tabV_one _)
  rw [show (w.alloc (.cells (tabV (tabTo 0)) 101)).heap.size = w.heap.size + 1 by simp] at S1
  have A1 := ((ATab.new w (tabTo 0)).alloc (.cells (tabV (tabTo 0)) 101))
  have A2 := ATab.new (w.alloc (.cells (tabV (tabTo 0)) 101)) (tabTo 0)
  rw [show (w.alloc (.cells (tabV (tabTo 0)) 101)).heap.size = w.heap.size + 1 by simp] at A2
  have HA1 := Lib.hid A1
  have HA2 := Lib.hid A2
  clear A1 A2
  go_enter Tryd.func79, Tryd.ntmps79
  go_wp2_with fail
  go_loopw [4] (fun i wr => TableRel w i wr) (fun i _ => 256 - (intOf i).toNat)
  case atStart => exact ⟨0, by omega, rfl, HA2.out, HA1.out, (below_new w _).alloc (by simp) _⟩
  case round =>
    obtain ⟨k, hk, rfl, ha, hr, hbel⟩ := hrel
    clear Z ZS S1 HA1 HA2
    by_cases h : k = 256
    · subst h
      rw [tabTo_all] at ha
      have T0 := Lib.hid (tabTo_len 0 (by omega))
      have TC := Lib.hid tabC_tab.1
      generalize tabC = tc at *
      generalize tabTo 0 = t0 at *
      have HA := Lib.hid ha
      have HR := Lib.hid hr
      have HB := Lib.hid hbel
      clear ha hr hbel
      go_wp2_with (first
        | (refine wpList_loadTab rfl _ rfl _ rfl _ HA.out TC.out ?_)
        | (refine wpList_storeTab rfl _ _ rfl _ rfl _ rfl _ HR.out T0.out TC.out ?_; intro w2 h2 h3 h4 h5))
      exact ret_tab _ rfl rfl rfl h2 TC.out ⟨rfl, h3 _ _ HB.out (Nat.le_refl _)⟩
    · have h8 : (k : Int) < 256 := by omega
      have c1 := ha.cell k (by rw [tabTo_len k hk]; omega)
      have c2 := ha.frozen k
      have HA := Lib.hid (tabTo_set k (by omega) ▸ ha.set k (wordC k))
      have HR := Lib.hid hr
      have HB := Lib.hid hbel
      clear ha hr hbel
      go_wp2_with fail
      refine (crcword_any k _ (by omega)).mono ?_
      rintro e w2 ⟨rfl, rfl⟩
      go_wp2_with fail
      go_roundw
      case rel => exact ⟨k + 1, by omega, by go_num, HA.out, HR.out.block (Below.heap_setCell _ _ _ _ (by simp only; omega)), HB.out.setCell (by simp only; omega) _⟩
      case measure => simp [intOf]; omega

end Go.Proofs.YtagchbpofoidmaaDoor
