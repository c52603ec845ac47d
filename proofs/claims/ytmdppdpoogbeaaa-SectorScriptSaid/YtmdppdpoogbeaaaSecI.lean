/-
  Package sector: Crash, Read by their contracts. Conditions: none but that the disk lies there, and what is handed in apart from it.
-/
import Derived.Test.YtmdppdpoogbeaaaSecH
namespace Go.Proofs.Ytmdppdpoogbeaaa
open Go.RowKit Go.Maps

theorem crash1_is (w : World) (cb : Nat) (vk : Value) (keep : List Bool) (torn bytes : Int) (k : Nat) (hb : w.heap[cb]? = some (.cells (crashV vk torn bytes) 34)) (hv : Rowz w vk (keep.map Value.bool)) :
    Calls Try.prog 40 #[.int .i64 (k : Int), .pointer (some ⟨cb, 0, none⟩)] w fun e w' => e = .returned (.int .i64 ((keptN keep torn bytes k : Nat) : Int)) ∧ Below w.heap.size w w' := by
  have c0 : w.cell? ⟨cb, 0, none⟩ = some vk := by rw [cell_of_row _ _ _ _ _ _ hb]; rfl
  have c1 : w.cell? ⟨cb, 1, none⟩ = some (.int .i64 torn) := by rw [cell_of_row _ _ _ _ _ _ hb]; rfl
  have c2 : w.cell? ⟨cb, 2, none⟩ = some (.int .i64 bytes) := by rw [cell_of_row _ _ _ _ _ _ hb]; rfl
  have C := Lib.hid (kept_any w vk keep torn bytes k hv)
  unfold crashV at C
  obtain ⟨A, n, c, rfl, N, hnc, hcm⟩ := hv.form
  clear hb hv
  go_enter Try.func40, Try.ntmps40
  go_wp2_with fail
  refine C.out.mono ?_
  rintro e w1 ⟨rfl, hb1⟩
  go_wp2_with fail
  go_ret
  exact ⟨rfl, hb1⟩
set_option maxHeartbeats 1000000 in
theorem crash_is (w : World) (S : Nat → Prop) (g : Nat) (s : St) (vk : Value) (keep : List Bool) (torn bytes : Int) (h : Dsk w S g s) (hv : Rowz w vk (keep.map Value.bool)) (hn : ∀ k, vk.ownBlock = some k → ¬ S k) :
    Calls Try.prog 15 #[.pointer (some ⟨g, 0, none⟩), .agg (crashV vk torn bytes)] w (Done w S g (0, crashS s keep torn bytes)) := by
  have h1 := h.below (below_new w (.cells (crashV vk torn bytes) 34))
  obtain ⟨ib, ic, m, vo, vf, hd, _, _⟩ := h1.parts
  have HM := Lib.hid (made_is _ g ib ic m _ vo vf hd h.ok.pos)
  have HL := Lib.hid h.lt
  have HN := Lib.hid hn
  have hv1 : Rowz (w.alloc (.cells (crashV vk torn bytes) 34)) vk (keep.map Value.bool) := hv.below (below_new w _)
  have hc1 : (w.alloc (.cells (crashV vk torn bytes) 34)).heap[w.heap.size]? = some (.cells (crashV vk torn bytes) 34) := heap_alloc_new w _
  have HK : Hid (∀ (k : Nat) (W : World), Trn S (w.alloc (.cells (crashV vk torn bytes) 34)) W → Calls Try.prog 40 (#[.int .i64 (k : Int)] ++ #[.pointer (some ⟨w.heap.size, 0, none⟩)]) W fun e w' => e = .returned (.int .i64 ((keptN keep torn bytes k : Nat) : Int)) ∧ Below W.heap.size W w') := by
    intro k W ht
    refine crash1_is W w.heap.size vk keep torn bytes k ?_ (hv1.trn ht hn)
    rw [ht.block w.heap.size (by simp) (fun hs => by have := h.lt _ hs; omega)]
    exact hc1
  have C := Lib.hid (settle_any _ S g s h1 (keptN keep torn bytes) (keptN_le keep torn bytes) 40 #[.pointer (some ⟨w.heap.size, 0, none⟩)] enter46 HK.out)
  obtain ⟨A, n, c, rfl, N, hnc, hcm⟩ := hv.form
  have HG : Hid (S g) := by obtain ⟨_, _, _, _, _, _, _, F, _⟩ := h; exact F.g
  clear h h1 hd hv hv1 hn hc1 HK
  unfold crashV at *
  go_enter Try.func15, Try.ntmps15
  go_wp2_with fail
  refine HM.out.mono ?_
  rintro e w1 ⟨rfl, rfl⟩
  go_wp2_with fail
  refine C.out.mono ?_
  rintro e w2 ⟨rfl, hd2, ht2⟩
  have HD2 := Lib.hid hd2
  have HT2 := Lib.hid ht2
  obtain ⟨ib2, ic2, m2, vo2, vf2, D2, h2, F2, ok2⟩ := hd2
  obtain ⟨_, _, _, c3, _, _, f3⟩ := obj_cells h2.obj
  have H3 := Lib.hid (h2.setF (vf' := .pointer none) (F' := none) (.inl ⟨rfl, rfl⟩) (fun f hf => by cases hf))
  have HF2 := Lib.hid F2
  have HO2 := Lib.hid ok2
  clear ht2 h2 F2 ok2
  go_wp2_with fail
  go_ret
  have ht : Trn S w w2 := (Trn.of_below (below_new w (.cells #[.slice A n c, .int .i64 torn, .int .i64 bytes] 34))).trans HT2.out (fun _ _ h => h)
  refine ⟨rfl, ?_, ht.setCell _ (fun _ => HG.out)⟩
  have hd : Dsk (w2.setCell ⟨g, 3, none⟩ (.pointer none)) (more S (w.alloc (.cells #[.slice A n c, .int .i64 torn, .int .i64 bytes] 34)) w2) g (crashS s keep torn bytes) :=
    ⟨ib2, ic2, m2, vo2, .pointer none, D2, H3.out, ⟨HF2.out.g, HF2.out.ib, HF2.out.m, HF2.out.o, fun k hk => (by cases hk), fun k hk => by rw [setCell_size]; exact HF2.out.lt k hk⟩, ⟨HO2.out.whole, HO2.out.some_, HO2.out.few, HO2.out.rows, HO2.out.once, fun n hn => (by cases hn)⟩⟩
  refine hd.wide ?_ (more_lt (by rw [setCell_size]; exact ht.size) HL.out)
  rintro k (hk | hk)
  · exact .inl hk
  · exact .inr ⟨by have := hk.1; simp at this; omega, by rw [setCell_size]; exact hk.2⟩
theorem crash_nil (w : World) (vk : Value) (keep : List Bool) (torn bytes : Int) (hv : Rowz w vk (keep.map Value.bool)) : Calls Try.prog 15 #[.pointer none, .agg (crashV vk torn bytes)] w fun e w' => e = .returned (.int .i64 1) ∧ Below w.heap.size w w' := by
  obtain ⟨A, n, c, rfl, N, hnc, hcm⟩ := hv.form
  clear hv
  unfold crashV
  go_enter Try.func15, Try.ntmps15
  go_wp2_with fail
  refine (made_nil _).mono ?_
  rintro e w1 ⟨rfl, rfl⟩
  go_wp2_with fail
  go_ret
  exact ⟨rfl, below_new w _⟩
end Go.Proofs.Ytmdppdpoogbeaaa
