/-
  Package pool: Frames by its contract. Conditions: none but that the pool lies there.
-/
import Derived.Test.YtknagdbhhfelnaaDoorCPlI
namespace Go.Proofs.YtknagdbhhfelnaaDoor
open Go.RowKit Go.Maps
set_option maxRecDepth 100000

/-- A frame as it is told. -/
def afL (f : Fr) : List Value := [.bool f.is, .int .i64 f.page, .int .i64 (f.pins : Int), .bool f.dirty, .bool f.used]
/-- Block g is these frames, as they are told. -/
def ABlkF (w : World) (g : Nat) (l : List Fr) : Prop := w.heap[g]? = some (.cells (l.flatMap afL).toArray 79 (0, 0))
def MadeF (w : World) (l : List Fr) (e : Ending) (w' : World) : Prop := ∃ g, e = .returned (.slice (some ⟨g, 0, none⟩) l.length l.length) ∧ ABlkF w' g l ∧ w.heap.size ≤ g ∧ Below w.heap.size w w'
theorem afU : Tryd.prog.underlying 79 = some (.struct (Tryd.prog.fieldsOf 79)) := by kernel_rfl
theorem afInfo3 : (Tryd.prog.info? 79).map (fun i => (i.zero, i.size, i.bytes)) = some (some (.agg (afL zeroF).toArray), 5, 32) := by kernel_rfl
theorem made_af (n : Nat) : (madeCells (Value.agg (afL zeroF).toArray).cells (n * 5)).toList = (List.replicate n zeroF).flatMap afL := by
  unfold madeCells
  exact fm_made (m := 5) (g := afL) (fun _ => rfl) (by omega) zeroF n
theorem fill_next {α : Type} (L : List α) (z : α) (n k : Nat) (hn : L.length = n) (hk : k < n) : (L.take k ++ List.replicate (n - k) z).set k (L[k]'(by omega)) = L.take (k + 1) ++ List.replicate (n - (k + 1)) z := by
  have hl : (L.take k).length = k := by rw [List.length_take]; omega
  rw [List.set_append, if_neg (by omega), hl, Nat.sub_self, show n - k = (n - (k + 1)) + 1 by omega, List.replicate_succ, List.set_cons_zero, List.take_succ_eq_append_getElem (by omega), List.append_assoc]
  rfl
section
variable {w w' : World} {S T : Nat → Prop} {p d fb hand : Nat} {l : List (Fr × Value)} {s : St}
theorem store_af {L : List Fr} (h : ABlkF w p L) {i : Nat} (hi : i < L.length) (y : Fr) :
    (storeVar 79 ⟨p, i * 5, none⟩ (.agg (afL y).toArray)).run Tryd.prog w = .ok () (w.setRow p (putAll (L.flatMap afL).toArray (i * 5) (afL y))) := by
  have hl := fm_len (m := 5) (g := afL) (fun _ => rfl) L
  have := storeCells_at (P := Tryd.prog) p (i * 5) _ (afL y) 0 _ w h (by rw [List.size_toArray, hl]; simp [afL]; omega) (fun v hv => by
    simp [afL] at hv
    rcases hv with rfl | rfl | rfl | rfl | rfl <;> rfl)
  have hs := afSize
  cases hq : Tryd.prog.info? 79 with
  | none => rw [hq] at hs; cases hs
  | some i =>
    rw [hq] at hs
    have hsz : i.size = 5 := by simpa using hs
    simp [storeVar, sizeOf, typeInfo, hq, Value.cells, hsz, this, show (afL y).length = 5 from rfl]
theorem wpList_storeA {ops : Array Oper} {rest : List Oper} {o : Oper} {a : Act} {Q : Exit → Act → World → Prop} {L : List Fr} (h : ABlkF w p L) (i : Nat) (hi : i < L.length) (y : Fr)
    (hgd : o.guard = none) (a1 a2 : Operand) (ho : o.op = .store 79 a1 a2) (hx : a.eval a1 = .pointer (some ⟨p, i * 5, none⟩)) (hy : a.eval a2 = .agg (afL y).toArray)
    (hK : ∀ w', ABlkF w' p (L.set i y) → Trn (fun k => k = p) w w' → wpList Tryd.prog ops Q rest (a.put o.dst undef) w') : wpList Tryd.prog ops Q (o :: rest) a w :=
  wpList_plain hgd fun _ hk => by
    unfold Oper.wp execOp
    simp only [ho, hx, hy, Instr.storeAt, Instr.sureAddr, Sem.run_bind, Sem.run_pure, Result.andThen_ok, store_af h hi y]
    refine hk _ _ (hK _ ?_ (setRow_trn _ _ _))
    rw [fm_put (m := 5) (g := afL) (fun _ => rfl) (by omega) L i hi y]
    exact setRow_heap w p _ _ _ _ h
theorem PAtL.loadF (h : PAtL w S T p d fb l hand s) {i : Nat} (hi : i < l.length) : ∀ j y, (afL l[i].1)[j]? = some y → w.cell? ⟨fb, i * 6 + j, none⟩ = some y := fun j y hy => by
  have hj : j < 5 := (List.getElem?_eq_some_iff.1 hy).1
  rw [cell_of_row _ _ _ _ _ _ h.blk, List.getElem?_toArray, flat_get l i hi j (by omega)]
  match j, hj with
  | 0, _ => exact hy
  | 1, _ => exact hy
  | 2, _ => exact hy
  | 3, _ => exact hy
  | 4, _ => exact hy
def FramesRel (w : World) (L : List Fr) (i : Value) (wr : World) : Prop := ∃ k : Nat, k ≤ L.length ∧ i = .int .i64 (k : Int) ∧ ABlkF wr w.heap.size (L.take k ++ List.replicate (L.length - k) zeroF) ∧ Below w.heap.size w wr
set_option maxHeartbeats 1000000 in
theorem pframes_is {P : PSt} (h : PAt w T p d fb P) :
    Calls Tryd.prog 48 #[.pointer (some ⟨p, 0, none⟩)] w (MadeF w P.fr) := by
  obtain ⟨i0, hi0, hz0, hz1, hz2⟩ := info_parts afInfo3
  have HM := Lib.hid h.made
  obtain ⟨S, l, h, hf⟩ := h
  obtain ⟨c0, c1, c2, c3⟩ := h.cells
  have h256 := h.n256
  rw [← hf]
  have H := Lib.hid h
  clear h hf c0 c2 c3
  go_enter Tryd.func48, Tryd.ntmps48
  go_wp2_with fail
  refine HM.out.mono ?_
  rintro e w1 ⟨rfl, rfl⟩
  go_wp2_with (at_make; refine wpList_make_full _ rfl _ _ 97 rfl w.heap.size 79 i0 _ 5 Tryd.underlying97 hi0 hz0 hz1 _ _ _ _ l.length rfl rfl rfl rfl (by rw [hz2]; omega) (by simp only [maxLen]; omega) (Nat.le_refl _) ?_; intro w3 hown3 hg3; have c1 := (show w3.cell? ⟨p, 1, none⟩ = _ from ((below_none hg3).cell (p := ⟨p, 1, none⟩) (H.out.lt p H.out.tp)).trans c1))
  have hr := own_row hown3
  rw [made_af] at hr
  have HB3 : Hid (Below w.heap.size w w3) := below_none hg3
  have HR3 : Hid (ABlkF w3 w.heap.size (List.replicate l.length zeroF)) := hr
  have HLL : Hid ((l.map (·.1)).length = l.length) := List.length_map _
  clear hown3 hg3 hr c1
  go_loopw [19] (fun i wr => FramesRel w (l.map (·.1)) i wr) (fun i _ => l.length - (intOf i).toNat)
  case atStart => exact ⟨0, by omega, rfl, by rw [List.take_zero, List.nil_append, Nat.sub_zero, HLL.out]; exact HR3.out, HB3.out⟩
  case round =>
    obtain ⟨k, hk, rfl, hblk, hbel⟩ := hrel
    rw [HLL.out] at hk
    have HA := Lib.hid hblk
    have HB := Lib.hid hbel
    have HP := Lib.hid (H.out.below hbel)
    clear hblk hbel
    have c1 := HP.out.cells.2.1
    by_cases hlt : k < l.length
    · have hkn : (k : Int) < (l.length : Int) := by omega
      have HLF := Lib.hid (HP.out.loadF hlt)
      have HFN : Hid (((l.map (·.1)).take k ++ List.replicate ((l.map (·.1)).length - k) zeroF).set k l[k].1 = (l.map (·.1)).take (k + 1) ++ List.replicate ((l.map (·.1)).length - (k + 1)) zeroF) := by
        have := fill_next (l.map (·.1)) zeroF _ k rfl (by rw [HLL.out]; exact hlt)
        rw [List.getElem_map] at this
        exact this
      have HIN : Hid (k < ((l.map (·.1)).take k ++ List.replicate ((l.map (·.1)).length - k) zeroF).length) := by rw [Hid, List.length_append, List.length_take, List.length_replicate, HLL.out]; omega
      have HSZ : Hid (w.heap.size ≤ wr.heap.size) := HB.out.size
      generalize l[k].1 = f at *
      go_wp2_with (first | (refine wpList_loadAt Tryd.underlying79 (cs := afL f) afSize rfl _ rfl fb (k * 6) rfl HLF.out ?_) | (refine wpList_storeA HA.out k HIN.out f rfl _ _ rfl rfl rfl ?_; intro w4 h4 ht4))
      have HA4 := Lib.hid h4
      have HT4 := Lib.hid ht4
      clear h4 ht4
      go_roundw
      case rel => exact ⟨k + 1, by rw [HLL.out]; omega, by go_num, by rw [← HFN.out]; exact HA4.out, HB.out.trans (HT4.out.below HSZ.out (fun i e => by omega))⟩
      case measure => simp [intOf]; omega
    · obtain rfl : k = l.length := by omega
      go_wp2_with fail
      go_ret
      refine ⟨w.heap.size, by rw [HLL.out]; rfl, ?_, Nat.le_refl _, HB.out⟩
      have := HA.out
      rw [HLL.out, Nat.sub_self, List.replicate_zero, List.append_nil, List.take_of_length_le (by rw [HLL.out]; exact Nat.le_refl _)] at this
      exact this
end
end Go.Proofs.YtknagdbhhfelnaaDoor
