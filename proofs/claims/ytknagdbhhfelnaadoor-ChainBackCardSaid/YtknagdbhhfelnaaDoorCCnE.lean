/-
  slices.Values over one slice of bytes, slices.Chunk of bytes by 4,074, package chain's cut: which parts come, in which order, whatever the loop's body does that leaves the iterator's own blocks. Conditions: at most 2^46 bytes.
-/
import Derived.Test.YtknagdbhhfelnaaDoorCCnA
import Derived.Test.YtknagdbhhfelnaaDoorCRowV
import Derived.Test.YtknagdbhhfelnaaDoorCOrdR
import Derived.RangeFuncNested
import Derived.RangeFuncBound
import Derived.RangeFuncCalls
import Derived.RangeFuncLeaves
import Derived.RangeFuncBox
import Derived.Shelf.Abstract
import Derived.Shelf.RegionOpen
import Derived.OwnWalkIn
import Derived.TacticsInMore
import Derived.LoopNIn
import Derived.LoopIn
namespace Go.Proofs.YtknagdbhhfelnaaDoor
open Go.RowKit Go.Shelf Go.Maps
set_option maxRecDepth 100000
attribute [local go_sem] Oper.semAt_some
set_option linter.unusedVariables false

theorem SBox9.new (w : World) (t : TypeId) (v : Value) : (w.alloc (.cells #[v] t)).cell? ⟨w.heap.size, 0, none⟩ = some v := (Boxed.new w t v).cell
/-- What a round that goes on leaves: the blocks from a to b. -/
def KpC (a b : Nat) (W W' : World) : Prop := ∀ k, a ≤ k → k < b → W'.heap[k]? = W.heap[k]?
theorem KpC.refl (a b : Nat) (W : World) : KpC a b W W := fun _ _ _ => rfl
theorem KpC.trans {a b : Nat} {A B C : World} (h : KpC a b A B) (k : KpC a b B C) : KpC a b A C := fun i h1 h2 => (k i h1 h2).trans (h i h1 h2)
theorem KpC.obj {a b : Nat} {w : World} (h1 : b ≤ w.heap.size) (W : World) (l : Nat) (o o' : Obj) (hl : w.heap.size ≤ l) (_ : W.heap[l]? = some o) (_ : o.isCells = false) (_ : o.isWalk = false) : KpC a b W (W.putObj l o') :=
  fun k _ hk => World.putObj_heap_other (by omega)
theorem KpC.cell {a b : Nat} {W W' : World} (h : KpC a b W W') {p : Addr} (h1 : a ≤ p.block) (h2 : p.block < b) : W'.cell? p = W.cell? p := World.cell?_of_block (h p.block h1 h2)

def IxRel9 (a b : Nat) (W : World) (J : List Nat → World → Prop) (s N : Nat) (i : Value) (wr : World) : Prop := ∃ k : Nat, k ≤ N ∧ i = .int .i64 ((k * s : Nat) : Int) ∧ J (List.range k) wr ∧ KpC a b W wr
set_option maxRecDepth 100000 in
set_option maxHeartbeats 4000000 in
/-- slices.Values's closure over one slice. -/
theorem values1_in (F : Fence) (n : Nat) (hf : F.fn 58) (hro : F.round = none) (hn : 1 ≤ n) (lp a b Bs g : Nat) (x : Value) (hB1 : a ≤ Bs) (hB2 : Bs < b) (hg1 : a ≤ g) (hg2 : g < b) (J Jx : List Nat → World → Prop)
    (hY : ∀ pre i W, J pre W → pre.length < 1 → YieldAt F (n - 1) Tryd.prog lp #[x] W fun e W' =>
      (e = .returned (.bool true) ∧ J (pre ++ [i]) W' ∧ KpC a b W W') ∨ (e = .returned (.bool false) ∧ Jx (pre ++ [i]) W'))
    (W : World) (hBs : W.cell? ⟨Bs, 0, none⟩ = some (.slice (some ⟨g, 0, none⟩) 1 1)) (hg : W.cell? ⟨g, 0, none⟩ = some x) (h0 : J [] W) :
    CallsIn F n Tryd.prog 58 #[.func (.yield lp) #[] #[], .pointer (some ⟨Bs, 0, none⟩)] W fun e W' => (∃ v, e = .returned v) ∧
      ((∃ ys, ys = List.range 1 ∧ J ys W') ∨ (∃ pre, True ∧ Jx pre W')) := by
  refine callsIn_of_wp Tryd.func58 rfl hf ?_ hro
  simp only [Tryd.ntmps58, List.size_toArray, List.length_cons, List.length_nil, Nat.reduceAdd, Nat.reduceSub, Array.replicate_succ, Array.replicate_zero, List.push_toArray, List.append_toArray, List.nil_append, List.cons_append]
  gi_wp2
  gi_loopw [7] (fun i wr => IxRel9 a b W J 1 1 i wr) (fun i _ => 1 - (intOf i).toNat)
  case atStart => exact ⟨0, by omega, rfl, h0, KpC.refl _ _ _⟩
  case round =>
    obtain ⟨k, hk, rfl, hJs, hkp⟩ := hrel
    have HKP := Lib.hid hkp
    have hcx := (hkp.cell (p := ⟨g, 0, none⟩) hg1 hg2).trans hg
    clear hkp
    by_cases hlt : k = 0
    · subst hlt
      obtain ⟨fn, tmps, assign, body, hy, hR⟩ := hY _ 0 wr hJs (by simp)
      gi_wp2
      refine hR.mono ?_
      rintro e W3 (⟨rfl, hJ3, hk3⟩ | ⟨rfl, hJx3⟩)
      · gi_wp2
        go_roundw
        case rel => exact ⟨1, by omega, by go_num, hJ3, HKP.out.trans hk3⟩
        case measure => simp [intOf]
      · gi_wp2
        refine bodyPost_ret (results_none rfl _ _ _) rfl ?_
        exact ⟨⟨_, rfl⟩, .inr ⟨_, trivial, hJx3⟩⟩
    · obtain rfl : k = 1 := by omega
      gi_wp2
      go_end0
      exact ⟨⟨_, rfl⟩, .inl ⟨_, rfl, hJs⟩⟩

theorem slice_from (bb off m c a : Nat) (ha : a < m) (hc : m ≤ c) : ∀ W, (Instr.slice 27 (.slice (some ⟨bb, off, none⟩) m c) (some (.int .i64 (a : Int))) none none).run Tryd.prog W = .ok (.slice (some ⟨bb, off + a, none⟩) (m - a) (c - a)) W := by
  intro W
  rw [run_slice_l W 27 _ m c elemByte .i64 (a : Int) (by omega) (by omega), sizeByte]
  simp only [Result.andThen, sliced, Int.toNat_natCast]
  rw [if_neg (by omega)]
  simp [plainAdd]
theorem slice_mid (bb off m c a h : Nat) (ha : 0 < h) (hh : a + h ≤ m) (hc : m ≤ c) : ∀ W, (Instr.slice 27 (.slice (some ⟨bb, off, none⟩) m c) (some (.int .i64 (a : Int))) (some (.int .i64 ((a : Int) + (h : Int)))) (some (.int .i64 ((a : Int) + (h : Int))))).run Tryd.prog W = .ok (.slice (some ⟨bb, off + a, none⟩) h h) W := by
  intro W
  rw [run_slice_lhm W 27 _ m c elemByte .i64 .i64 .i64 (a : Int) _ _ (by omega) (by omega) (by omega) (by omega), sizeByte]
  simp only [Result.andThen, sliced]
  rw [if_neg (by omega), show ((a : Int) + (h : Int)).toNat - (a : Int).toNat = h by omega]
  simp [plainAdd]
/-- The part of a slice at a place. -/
def partV (bb off m : Nat) (i : Nat) : Value := .slice (some ⟨bb, off + i * 4074, none⟩) (min 4074 (m - i * 4074)) (min 4074 (m - i * 4074))
theorem byt_part {w : World} {bb off m c : Nat} {l : List UInt8} (h : Byt w (.slice (some ⟨bb, off, none⟩) m c) l) (i : Nat) (hi : i * 4074 < m) : Byt w (partV bb off m i) (chunkB l i) := by
  obtain ⟨A, c', e, h1, h2, h3⟩ := h
  injection e with e1 e2 e3
  subst e1 e2 e3
  have hl : (chunkB l i).length = min 4074 (l.length - i * 4074) := chunk_len l i
  refine ⟨_, _, by unfold partV; rw [hl], by rw [hl]; exact Nat.le_refl _, by unfold maxLen; omega, .inr ?_⟩
  rcases h3 with rfl | ⟨b, o, e, hb, hc⟩
  · simp at hi
  · injection e with e
    injection e with e1 e2
    subst e1 e2
    refine ⟨_, _, rfl, hb, fun j hj => ?_⟩
    rw [hl] at hj
    rw [show off + i * 4074 + j = off + (i * 4074 + j) by omega, hc (i * 4074 + j) (by omega)]
    congr 4
    have : ∀ (hj' : j < (chunkB l i).length), (chunkB l i)[j] = l[i * 4074 + j]'(by omega) := fun hj' => by simp only [chunkB, List.getElem_take, List.getElem_drop]
    rw [this]
set_option maxRecDepth 100000 in
set_option maxHeartbeats 4000000 in
/-- slices.Chunk's closure. -/
theorem chunk1_in (lp a b Bs Bn bb off m c : Nat) (hB1 : a ≤ Bs) (hB2 : Bs < b) (hg1 : a ≤ Bn) (hg2 : Bn < b) (hm : 0 < m) (hmc : m ≤ c) (hc : c ≤ 9223372036854775807) (hm46 : m ≤ 1073741824) (J Jx : List Nat → World → Prop) (hD : ∀ s W, J s W → J s W.drew)
    (hY : ∀ pre i W, i * 4074 < m → J pre W → pre.length < needN m → YieldAt Fence.wide 1 Tryd.prog lp #[partV bb off m i] W fun e W' =>
      (e = .returned (.bool true) ∧ J (pre ++ [i]) W' ∧ KpC a b W W') ∨ (e = .returned (.bool false) ∧ Jx (pre ++ [i]) W'))
    (W : World) (hBs : W.cell? ⟨Bs, 0, none⟩ = some (.slice (some ⟨bb, off, none⟩) m c)) (hg : W.cell? ⟨Bn, 0, none⟩ = some (.int .i64 4074)) (h0 : J [] W) :
    CallsIn Fence.wide 2 Tryd.prog 59 #[.func (.yield lp) #[] #[], .pointer (some ⟨Bs, 0, none⟩), .pointer (some ⟨Bn, 0, none⟩)] W fun e W' => (∃ v, e = .returned v) ∧
      ((∃ ys, ys = List.range (needN m) ∧ J ys W') ∨ (∃ pre, True ∧ Jx pre W')) := by
  refine callsIn_of_wp Tryd.func59 rfl trivial ?_ rfl
  simp only [Tryd.ntmps59, List.size_toArray, List.length_cons, List.length_nil, Nat.reduceAdd, Nat.reduceSub, Array.replicate_succ, Array.replicate_zero, List.push_toArray, List.append_toArray, List.nil_append, List.cons_append]
  gi_wp2
  gi_loopw [4] (fun i wr => IxRel9 a b W J 4074 (needN m) i wr) (fun i _ => needN m * 4074 - (intOf i).toNat)
  case atStart => exact ⟨0, by omega, rfl, h0, KpC.refl _ _ _⟩
  case round =>
    obtain ⟨k, hk, rfl, hJs, hkp⟩ := hrel
    have HKP := Lib.hid hkp
    have c1 := (hkp.cell (p := ⟨Bs, 0, none⟩) hB1 hB2).trans hBs
    have c2 := (hkp.cell (p := ⟨Bn, 0, none⟩) hg1 hg2).trans hg
    clear hkp
    have hup := needN_up (n := m)
    have hlo := needN_lo hm
    by_cases hlt : k * 4074 < m
    · have hkl : k < needN m := by omega
      have HPV : Hid (partV bb off m k = .slice (some ⟨bb, off + k * 4074, none⟩) (min 4074 (m - k * 4074)) (min 4074 (m - k * 4074))) := rfl
      have HUP : Hid (m ≤ needN m * 4074) := hup
      have HLO : Hid ((needN m - 1) * 4074 < m) := hlo
      have hJd := hD _ _ hJs
      have HKP : Hid (KpC a b W wr.drew) := HKP.out
      have C1 : Hid (wr.drew.cell? ⟨Bs, 0, none⟩ = some (.slice (some ⟨bb, off, none⟩) m c)) := c1
      have C2 : Hid (wr.drew.cell? ⟨Bn, 0, none⟩ = some (.int .i64 4074)) := c2
      clear hup hlo hJs
      generalize hp : k * 4074 = p at *
      have HP := Lib.hid hp
      have HFR : Hid (∀ W, (Instr.slice 27 (.slice (some ⟨bb, off, none⟩) m c) (some (.int .i64 (p : Int))) none none).run Tryd.prog W = .ok (.slice (some ⟨bb, off + p, none⟩) (m - p) (c - p)) W) := slice_from bb off m c _ hlt hmc
      clear hp
      by_cases hful : 4074 ≤ m - p
      · have hmin : min 4074 (m - p) = 4074 := by omega
        have HMD : Hid (∀ W, (Instr.slice 27 (.slice (some ⟨bb, off, none⟩) m c) (some (.int .i64 (p : Int))) (some (.int .i64 ((p : Int) + 4074))) (some (.int .i64 ((p : Int) + 4074)))).run Tryd.prog W = .ok (.slice (some ⟨bb, off + p, none⟩) (4074) (4074)) W) := slice_mid bb off m c p (4074) (by omega) (by omega) hmc
        rw [hmin] at HPV
        clear hmin
        gi_wp2
        clear c1 c2
        refine wpIn_wide.2 (wp_onlyN ?_)
        refine wp_region_R (R := fun x y => x = y) (by kernel_rfl) (fun _ => rfl) (fun h k => h.trans k) (by kernel_rfl) (fun d v c a w h => by cases d <;> exact h)
          [(0, false), (1, false), (2, false), (3, false), (4, false), (5, false), (6, false)] rfl (by kernel_rfl) (by kernel_rfl) ?_
        simp only [sel, List.getElem?_toArray, List.getElem?_cons_succ, List.getElem?_cons_zero]
        generalize wr.drew = wd at *
        (refine sch_take ?_ rfl ?_ ?_; rotate_left; (focus (intro u hu; subst hu; have c2 := C2.out; go_simp <;> rfl)); simp only [Act.put, List.setIfInBounds_toArray, List.set_cons_zero, List.set_cons_succ])
        (refine sch_take ?_ rfl ?_ ?_; rotate_left; (focus (intro u hu; subst hu; have c1 := C1.out; go_simp <;> rfl)); simp only [Act.put, List.setIfInBounds_toArray, List.set_cons_zero, List.set_cons_succ])
        (refine sch_take ?_ rfl ?_ ?_; rotate_left; (focus (intro u hu; go_simp <;> rfl)); simp only [Act.put, List.setIfInBounds_toArray, List.set_cons_zero, List.set_cons_succ])
        (refine sch_take ?_ rfl ?_ ?_; rotate_left; (focus (intro u hu; have hfr := HFR.out; go_simp <;> rfl)); simp only [Act.put, List.setIfInBounds_toArray, List.set_cons_zero, List.set_cons_succ])
        iterate 3 (refine sch_take ?_ rfl ?_ ?_; rotate_left; (focus (intro u hu; go_simp <;> rfl)); simp only [Act.put, List.setIfInBounds_toArray, List.set_cons_zero, List.set_cons_succ])
        refine sch_nilN ?_
        have hmd := HMD.out
        have c1 := C1.out
        obtain ⟨fn, tmps, assign, body, hy, hR⟩ := hY _ k wd (by rw [HP.out]; exact hlt) hJd (by rw [List.length_range]; exact hkl)
        rw [HPV.out] at hy
        gi_wp2
        refine hR.mono ?_
        rintro e W3 (⟨rfl, hJ3, hk3⟩ | ⟨rfl, hJx3⟩)
        · have c2 := (hk3.cell (p := ⟨Bn, 0, none⟩) hg1 hg2).trans C2.out
          clear c1
          gi_wp2
          go_roundw
          case rel => exact ⟨k + 1, by omega, by rw [show (((k + 1) * 4074 : Nat) : Int) = (p : Int) + 4074 by have := HP.out; omega], by rw [List.range_succ]; exact hJ3, HKP.out.trans hk3⟩
          case measure => simp [intOf]; have := HUP.out; omega
        · gi_wp2
          refine bodyPost_ret (results_none rfl _ _ _) rfl ?_
          exact ⟨⟨_, rfl⟩, .inr ⟨_, trivial, hJx3⟩⟩

      · have hmin : min 4074 (m - p) = m - p := by omega
        have HMD : Hid (∀ W, (Instr.slice 27 (.slice (some ⟨bb, off, none⟩) m c) (some (.int .i64 (p : Int))) (some (.int .i64 ((p : Int) + ((m - p : Nat) : Int)))) (some (.int .i64 ((p : Int) + ((m - p : Nat) : Int))))).run Tryd.prog W = .ok (.slice (some ⟨bb, off + p, none⟩) (m - p) (m - p)) W) := slice_mid bb off m c p (m - p) (by omega) (by omega) hmc
        rw [hmin] at HPV
        clear hmin
        gi_wp2
        clear c1 c2
        refine wpIn_wide.2 (wp_onlyN ?_)
        refine wp_region_R (R := fun x y => x = y) (by kernel_rfl) (fun _ => rfl) (fun h k => h.trans k) (by kernel_rfl) (fun d v c a w h => by cases d <;> exact h)
          [(0, false), (1, false), (2, false), (3, false), (4, false), (5, false), (6, false)] rfl (by kernel_rfl) (by kernel_rfl) ?_
        simp only [sel, List.getElem?_toArray, List.getElem?_cons_succ, List.getElem?_cons_zero]
        generalize wr.drew = wd at *
        (refine sch_take ?_ rfl ?_ ?_; rotate_left; (focus (intro u hu; subst hu; have c2 := C2.out; go_simp <;> rfl)); simp only [Act.put, List.setIfInBounds_toArray, List.set_cons_zero, List.set_cons_succ])
        (refine sch_take ?_ rfl ?_ ?_; rotate_left; (focus (intro u hu; subst hu; have c1 := C1.out; go_simp <;> rfl)); simp only [Act.put, List.setIfInBounds_toArray, List.set_cons_zero, List.set_cons_succ])
        (refine sch_take ?_ rfl ?_ ?_; rotate_left; (focus (intro u hu; go_simp <;> rfl)); simp only [Act.put, List.setIfInBounds_toArray, List.set_cons_zero, List.set_cons_succ])
        (refine sch_take ?_ rfl ?_ ?_; rotate_left; (focus (intro u hu; have hfr := HFR.out; go_simp <;> rfl)); simp only [Act.put, List.setIfInBounds_toArray, List.set_cons_zero, List.set_cons_succ])
        iterate 3 (refine sch_take ?_ rfl ?_ ?_; rotate_left; (focus (intro u hu; go_simp <;> rfl)); simp only [Act.put, List.setIfInBounds_toArray, List.set_cons_zero, List.set_cons_succ])
        refine sch_nilN ?_
        have hmd := HMD.out
        have c1 := C1.out
        obtain ⟨fn, tmps, assign, body, hy, hR⟩ := hY _ k wd (by rw [HP.out]; exact hlt) hJd (by rw [List.length_range]; exact hkl)
        rw [HPV.out] at hy
        gi_wp2
        refine hR.mono ?_
        rintro e W3 (⟨rfl, hJ3, hk3⟩ | ⟨rfl, hJx3⟩)
        · have c2 := (hk3.cell (p := ⟨Bn, 0, none⟩) hg1 hg2).trans C2.out
          clear c1
          gi_wp2
          go_roundw
          case rel => exact ⟨k + 1, by omega, by rw [show (((k + 1) * 4074 : Nat) : Int) = (p : Int) + 4074 by have := HP.out; omega], by rw [List.range_succ]; exact hJ3, HKP.out.trans hk3⟩
          case measure => simp [intOf]; have := HUP.out; omega
        · gi_wp2
          refine bodyPost_ret (results_none rfl _ _ _) rfl ?_
          exact ⟨⟨_, rfl⟩, .inr ⟨_, trivial, hJx3⟩⟩

    · have hke : k = needN m := by omega
      gi_wp2
      go_end0
      exact ⟨⟨_, rfl⟩, .inl ⟨_, by rw [← hke], hJs⟩⟩

/-- What cut answers: an iterator that gives the parts, in order. -/
def CutOut (w00 w : World) (b : List UInt8) (e : Ending) (w' : World) : Prop :=
  ∃ (gf : Nat) (lb : Array Value) (vv : Nat → Value), e = .returned (.func (.func gf) #[] lb) ∧ Below w.heap.size w w' ∧ (∀ args W, (callFunc gf args).run Tryd.prog W = .ok (.enter gf args) W) ∧ (∀ i, Byt w00 (vv i) (chunkB b i)) ∧
    SeqStopsK Fence.wide 2 Tryd.prog gf lb (fun i : Nat => #[vv i]) (KpC w.heap.size w'.heap.size) (fun ys => ys = List.range (needN b.length)) (fun _ => True) (needN b.length) w'
theorem values_any (w : World) (g : Nat) :
    Calls Tryd.prog 43 #[.slice (some ⟨g, 0, none⟩) 1 1] w fun e w' => e = .returned (.func (.func 58) #[] #[.pointer (some ⟨w.heap.size, 0, none⟩)]) ∧ w' = w.alloc (.cells #[.slice (some ⟨g, 0, none⟩) 1 1] 22) := by
  go_enter Tryd.func43, Tryd.ntmps43
  go_wp2
  go_ret
  exact ⟨rfl, rfl⟩
theorem chunk_any (w : World) (A : Option Addr) (m c : Nat) :
    Calls Tryd.prog 44 #[.slice A m c, .int .i64 4074] w fun e w' => e = .returned (.func (.func 59) #[] #[.pointer (some ⟨w.heap.size, 0, none⟩), .pointer (some ⟨w.heap.size + 1, 0, none⟩)]) ∧ w' = (w.alloc (.cells #[.slice A m c] 27)).alloc (.cells #[.int .i64 4074] 3) := by
  go_enter Tryd.func44, Tryd.ntmps44
  go_wp2
  go_ret
  exact ⟨rfl, rfl⟩
theorem abides_drew {β : Type} {B : Nat} {J : β → World → Prop} (h : AbidesFrom B J) (s : β) (W : World) (hs : J s W) : J s W.drew :=
  h s W W.drew none hs ⟨rfl, rfl, rfl, Nat.le_refl _, fun _ _ _ => rfl⟩ (fun r e => by cases e)
set_option maxHeartbeats 1000000 in
theorem cut_any (w00 w : World) (v : Value) (b : List UInt8) (hv : Byt w00 v b) (hbl : b.length ≤ 1073741824) : Calls Tryd.prog 24 #[v] w (CutOut w00 w b) := by
  obtain ⟨A, m, c, rfl, N, hmc, hc⟩ := hv.form
  have hm : m = b.length := N.out
  subst hm
  have HV := Lib.hid hv
  by_cases h0 : b.length = 0
  · have hb : b = [] := List.eq_nil_of_length_eq_zero h0
    subst hb
    clear hv N hc
    go_enter Tryd.func24, Tryd.ntmps24
    go_wp2_with fail
    refine (values_any _ _).mono ?_
    rintro e w2 ⟨rfl, hw2⟩
    have HW2 := Lib.hid hw2
    clear hw2
    go_wp2_with fail
    go_ret
    have hz1 : (w.alloc (.cells #[.slice none 0 0] 27)).heap.size = w.heap.size + 1 := by simp
    have hc0 : w2.cell? ⟨w.heap.size, 0, none⟩ = some (.slice none 0 0) := by
      rw [HW2.out]
      exact ((below_new (w.alloc (.cells #[.slice none 0 0] 27)) _).cell (p := ⟨w.heap.size, 0, none⟩) (by rw [hz1]; exact Nat.lt_succ_self _)).trans (SBox9.new w 27 (.slice none 0 0))
    have hc1 : w2.cell? ⟨w.heap.size + 1, 0, none⟩ = some (.slice (some ⟨w.heap.size, 0, none⟩) 1 1) := by
      rw [HW2.out]
      have := SBox9.new (w.alloc (.cells #[.slice none 0 0] 27)) 22 (.slice (some ⟨w.heap.size, 0, none⟩) 1 1)
      rw [hz1] at this
      exact this
    have hz2 : w2.heap.size = w.heap.size + 2 := by rw [HW2.out]; simp
    refine ⟨_, _, fun _ => .slice none 0 0, rfl, ?_, enters_of Tryd.func58 (by kernel_rfl) rfl, fun i => ?_, ?_⟩
    · rw [HW2.out]
      exact (below_new w _).trans ((below_new _ _).mono (by simp))
    · rw [show chunkB [] i = [] from by simp [chunkB]]
      exact Byt.nil _
    · intro lp J Jx W hW hJ hJx hY h0
      exact values1_in Fence.wide 2 trivial rfl (by omega) lp w.heap.size w2.heap.size (w.heap.size + 1) w.heap.size (.slice none 0 0) (by omega) (by omega) (by omega) (by omega) J Jx hY W ((hW.cell (p := ⟨w.heap.size + 1, 0, none⟩) (show w.heap.size + 1 < w2.heap.size by omega)).trans hc1) ((hW.cell (p := ⟨w.heap.size, 0, none⟩) (show w.heap.size < w2.heap.size by omega)).trans hc0) h0
  · have hpos : 0 < b.length := by omega
    have h0' : ((b.length : Int) == 0) = false := ne_int (b := 0) h0
    have hA : ∃ bb off, A = some ⟨bb, off, none⟩ := by
      obtain ⟨A', c', e, _, _, h3⟩ := hv
      injection e with e1 e2 e3
      rcases h3 with rfl | ⟨bb, off, e, _⟩
      · simp at hpos
      · exact ⟨bb, off, e1.trans e⟩
    obtain ⟨bb, off, rfl⟩ := hA
    clear hv N h0
    go_enter Tryd.func24, Tryd.ntmps24
    go_wp2_with fail
    refine (chunk_any w _ _ _).mono ?_
    rintro e w2 ⟨rfl, hw2⟩
    have HW2 := Lib.hid hw2
    clear hw2
    go_wp2_with fail
    go_ret
    have hz1 : (w.alloc (.cells #[.slice (some ⟨bb, off, none⟩) b.length c] 27)).heap.size = w.heap.size + 1 := by simp
    have hc0 : w2.cell? ⟨w.heap.size, 0, none⟩ = some (.slice (some ⟨bb, off, none⟩) b.length c) := by
      rw [HW2.out]
      exact ((below_new (w.alloc (.cells #[.slice (some ⟨bb, off, none⟩) b.length c] 27)) _).cell (p := ⟨w.heap.size, 0, none⟩) (by rw [hz1]; exact Nat.lt_succ_self _)).trans (SBox9.new w 27 _)
    have hc1 : w2.cell? ⟨w.heap.size + 1, 0, none⟩ = some (.int .i64 4074) := by
      rw [HW2.out]
      have := SBox9.new (w.alloc (.cells #[.slice (some ⟨bb, off, none⟩) b.length c] 27)) 3 (.int .i64 4074)
      rw [hz1] at this
      exact this
    have hz2 : w2.heap.size = w.heap.size + 2 := by rw [HW2.out]; simp
    have hb2 : Below w.heap.size w w2 := by
      rw [HW2.out]
      exact (below_new w _).trans ((below_new _ _).mono (by simp))
    refine ⟨_, _, fun i => if i * 4074 < b.length then partV bb off b.length i else .slice none 0 0, rfl, hb2, enters_of Tryd.func59 (by kernel_rfl) rfl, fun i => ?_, ?_⟩
    · show Byt w00 (if i * 4074 < b.length then partV bb off b.length i else .slice none 0 0) _
      by_cases hi : i * 4074 < b.length
      · rw [if_pos hi]
        exact byt_part HV.out i hi
      · rw [if_neg hi, show chunkB b i = [] from by unfold chunkB; rw [List.drop_of_length_le (by omega)]; rfl]
        exact Byt.nil _
    · intro lp J Jx W hW hJ hJx hY h0
      exact chunk1_in lp w.heap.size w2.heap.size w.heap.size (w.heap.size + 1) bb off b.length c (by omega) (by omega) (by omega) (by omega) hpos hmc hc hbl J Jx (abides_drew hJ) (fun pre i W' hi hj hl => by have := hY pre i W' hj hl; dsimp only at this; rw [if_pos hi] at this; exact this) W ((hW.cell (p := ⟨w.heap.size, 0, none⟩) (show w.heap.size < w2.heap.size by omega)).trans hc0) ((hW.cell (p := ⟨w.heap.size + 1, 0, none⟩) (show w.heap.size + 1 < w2.heap.size by omega)).trans hc1) h0
end Go.Proofs.YtknagdbhhfelnaaDoor
