/-
  Package page: Read, Same by their contracts. Conditions: none.
-/
import Derived.Test.YtagchbpofoidmaaDoorPgD
import Derived.Test.YtagchbpofoidmaaDoorRead5
import Derived.Test.YtagchbpofoidmaaDoorSecC
namespace Go.Proofs.YtagchbpofoidmaaDoor
open Go.RowKit Go.Maps
set_option maxRecDepth 100000

theorem wordR_four {m : List UInt8} (h : m.length = 4) : (wordR m 0 4).1 = wordN m := by
  have := read_word 4 (wordN m) [] (by omega)
  rw [List.append_nil, wordB_four h] at this
  have e : wordR m 0 4 = wordR m 0 ((4 : Nat) : Int) := rfl
  rw [e, this]
  have := wordN_lt m
  rw [h] at this
  exact Nat.mod_eq_of_lt this
theorem Box.frozen {w : World} {p : Nat} {k n : Int} {vb : Value} (h : Box w p k n vb) (j : Nat) : w.frozen? ⟨p, j, none⟩ = false := by
  unfold Box at h
  simp [World.frozen?, h]
theorem Box.grown {w w' : World} {p : Nat} {k n : Int} {vb : Value} {g : Nat} (h : Box w p k n vb) (hg : w.grownBy w' (some g)) (hne : p ≠ g) : Box w' p k n vb :=
  (hg.block p h.lt (by simpa using hne)).trans h
theorem Box.set {w : World} {p : Nat} {k n : Int} {vb : Value} (h : Box w p k n vb) (k' n' : Int) (vb' : Value) :
    Box (((w.setCell ⟨p, 0, none⟩ (.int .i64 k')).setCell ⟨p, 1, none⟩ (.int .u32 n')).setCell ⟨p, 2, none⟩ vb') p k' n' vb' := by
  unfold Box at h ⊢
  simp [World.setCell, Array.getElem?_modify, h, pageV]
theorem bel_set3 {B p : Nat} {w u : World} (h : Below B w u) (hp : B ≤ p) (v0 v1 v2 : Value) : Below B w (((u.setCell ⟨p, 0, none⟩ v0).setCell ⟨p, 1, none⟩ v1).setCell ⟨p, 2, none⟩ v2) :=
  ((h.setCell hp _).setCell hp _).setCell hp _
theorem Box.notByte {w : World} {p : Nat} {k n : Int} {A : Option Addr} {m c : Nat} (h : Box w p k n (.slice A m c)) : ¬ ∃ off u, w.cell? ⟨p, off, none⟩ = some (.int .u8 u) := by
  rintro ⟨off, u, hc⟩
  unfold Box at h
  rw [cell_of_row _ _ _ _ _ _ h] at hc
  unfold pageV at hc
  match off, hc with
  | 0, hc => simp at hc
  | 1, hc => simp at hc
  | 2, hc => simp at hc
  | n + 3, hc => simp at hc
theorem Byt.set3 {w : World} {p : Nat} {k n : Int} {A : Option Addr} {m c : Nat} (h : Box w p k n (.slice A m c)) (v0 v1 v2 : Value) {v : Value} {l : List UInt8} (hv : Byt w v l) : Byt (((w.setCell ⟨p, 0, none⟩ v0).setCell ⟨p, 1, none⟩ v1).setCell ⟨p, 2, none⟩ v2) v l := by
  refine hv.keep (by rw [setCell_size, setCell_size, setCell_size]; exact Nat.le_refl _) (fun b hb hu => ?_)
  have hne : b ≠ p := fun e => h.notByte (e ▸ hu)
  rw [heap_cell_other hne, heap_cell_other hne, heap_cell_other hne]
theorem ownsRow_sameB {w w' : World} {B : Nat} {e : TypeId} {v : Value} {n : Nat} {xs : List Value} (h : w.ownsRow B e 1 v n xs) (hb : ∀ k, v.ownBlock = some k → w'.heap[k]? = w.heap[k]?) : w'.ownsRow B e 1 v n xs := by
  refine ⟨h.1, ?_⟩
  rcases h.2 with ⟨rfl, h0⟩ | ⟨g, cap, cur, rfl, hle, hg, r⟩
  · exact .inl ⟨rfl, h0⟩
  · exact .inr ⟨g, cap, cur, rfl, hle, (hb g rfl).trans hg, r⟩
theorem Own.set3 {w : World} {p B : Nat} {k n : Int} {vb : Value} (h : Box w p k n vb) (v0 v1 v2 : Value) {v : Value} {l : List UInt8} (hv : Own w B 5 v l) : Own (((w.setCell ⟨p, 0, none⟩ v0).setCell ⟨p, 1, none⟩ v1).setCell ⟨p, 2, none⟩ v2) B 5 v l := by
  refine ownsRow_sameB hv (fun i hi => ?_)
  obtain ⟨cur, hc⟩ := ownsRow_block (hv.lower (Nat.zero_le _)) hi
  have hne : i ≠ p := tag_ne hc h (by decide)
  rw [heap_cell_other hne, heap_cell_other hne, heap_cell_other hne]
/-- A page that is told. -/
def ReadE (w : World) (l : List UInt8) (e : Ending) (w' : World) : Prop :=
  ∃ v, e = .returned (.tuple #[.agg (pageV ((l.getD 3 0).toNat : Int) (numW l : Int) v), .int .i64 0]) ∧ Own w' w.heap.size 5 v (l.drop 16) ∧ Below w.heap.size w w'
def ReadN (w : World) (e : Ending) (w' : World) : Prop := e = .returned (.tuple #[.agg (pageV 0 0 (.slice none 0 0)), .int .i64 4]) ∧ Below w.heap.size w w'
set_option maxHeartbeats 1000000 in
theorem read_bad (w : World) (v : Value) (l : List UInt8) (hv : Byt w v l) (h : ¬ okB l) : Calls Tryd.prog 10 #[v] w (ReadN w) := by
  have HK : Hid (kindB l = 0) := (kindB_zero l).2 h
  have HV := Lib.hid (hv.alloc (.cells (pageV 0 0 (.slice none 0 0)) 28))
  have HX := Lib.hid (Box.new w 0 0 (.slice none 0 0))
  have HB := Lib.hid (below_new w (.cells (pageV 0 0 (.slice none 0 0)) 28))
  obtain ⟨A, m, c, rfl, N, hnc, hcm⟩ := hv.form
  clear hv h
  generalize hw0 : w.alloc (.cells (pageV 0 0 (.slice none 0 0)) 28) = w0 at *
  have HW0 := Lib.hid hw0
  unfold pageV at HW0
  clear hw0
  go_enter Tryd.func10, Tryd.ntmps10
  go_wp2_with fail
  rw [HW0.out]
  refine (kind_any _ _ l HV.out).mono ?_
  rintro e w1 ⟨rfl, hb1⟩
  rw [HK.out]
  have hx1 := Lib.hid (HX.out.below hb1)
  obtain ⟨c0, c1, c2⟩ := hx1.out.cells
  have f0 := hx1.out.frozen 0
  have f1 := hx1.out.frozen 1
  have f2 := hx1.out.frozen 2
  have HB1 := Lib.hid (HB.out.trans (hb1.mono HB.out.size))
  clear hb1
  go_wp2_with fail
  have HX9 := Lib.hid (hx1.out.set 0 0 (.slice none 0 0))
  have HB9 := Lib.hid (bel_set3 HB1.out (Nat.le_refl _) (.int .i64 0) (.int .u32 0) (.slice none 0 0))
  generalize ((w1.setCell ⟨w.heap.size, 0, none⟩ (.int .i64 0)).setCell ⟨w.heap.size, 1, none⟩ (.int .u32 0)).setCell ⟨w.heap.size, 2, none⟩ (.slice none 0 0) = w9 at *
  obtain ⟨d0, d1, d2⟩ := HX9.out.cells
  refine bodyPost_ret (v := .tuple #[.agg (pageV 0 0 (.slice none 0 0)), .int .i64 4]) (by simp [results, Tryd.results10, go_sem, pageV, d0, d1, d2]) rfl ?_
  exact ⟨rfl, HB9.out⟩
set_option maxRecDepth 100000 in
set_option maxHeartbeats 4000000 in
theorem read_ok (w : World) (v : Value) (l : List UInt8) (hv : Byt w v l) (h : okB l) : Calls Tryd.prog 10 #[v] w (ReadE w l) := by
  have hl := h.1.1
  have HK : Hid (kindB l = (l.getD 3 0).toNat) := kindB_ok h
  have hk1 := h.2.1.1
  have HX := Lib.hid (Box.new w 0 0 (.slice none 0 0))
  have HB := Lib.hid (below_new w (.cells (pageV 0 0 (.slice none 0 0)) 28))
  obtain ⟨A, m, c, rfl, N, hnc, hcm⟩ := hv.form
  obtain rfl : m = 4096 := N.out.trans hl
  obtain ⟨A1, n1, c1, r1, b1, N1, _, _⟩ := hv.midrun 4 8 (by omega) (by omega)
  have r1' : ∀ W, (Instr.slice 22 (.slice A 4096 c) (some (.int .i64 4)) (some (.int .i64 8)) none).run Tryd.prog W = .ok (.slice A1 n1 c1) W := r1
  obtain ⟨A2, n2, c2, r2, b2, N2, _, _⟩ := hv.midrun 16 4096 (by omega) (by omega)
  have r2' : ∀ W, (Instr.slice 22 (.slice A 4096 c) (some (.int .i64 16)) (some (.int .i64 4096)) none).run Tryd.prog W = .ok (.slice A2 n2 c2) W := r2
  have HV := Lib.hid hv
  have H4 : Hid ((l.drop 4).take (8 - 4) = (l.drop 4).take 4) := rfl
  have hd : (l.drop 16).take (4096 - 16) = l.drop 16 := List.take_of_length_le (by rw [List.length_drop]; omega)
  rw [hd] at b2
  have B1 : Hid (Byt w (.slice A1 n1 c1) ((l.drop 4).take 4)) := b1
  have B2 := Lib.hid b2
  have HW : Hid ((wordR ((l.drop 4).take 4) 0 4).1 = numW l) := wordR_four (by rw [List.length_take, List.length_drop]; omega)
  have HNL := Lib.hid (numW_lt l)
  have HL4 : Hid (((l.drop 4).take 4).length ≤ 4) := by rw [Hid, List.length_take]; omega
  have HLL := Lib.hid hl
  clear hv h r1 r2 b1 b2 hd
  unfold ReadE
  generalize hx : (l.getD 3 0).toNat = x at *
  have hne : ((x : Int) == 0) = false := by simp; omega
  generalize hw0 : w.alloc (.cells (pageV 0 0 (.slice none 0 0)) 28) = w0 at *
  have HW0 := Lib.hid hw0
  unfold pageV at HW0
  clear hw0 hx
  go_enter Tryd.func10, Tryd.ntmps10
  go_wp2_with fail
  rw [HW0.out]
  refine (kind_any _ _ l (HV.out.below HB.out)).mono ?_
  rintro e w1 ⟨rfl, hb1⟩
  rw [HK.out]
  have HX1 := Lib.hid (HX.out.below hb1)
  have HB1 := Lib.hid (HB.out.trans (hb1.mono HB.out.size))
  clear hb1
  go_wp2_with fail
  refine (new_any _ _ _ (B1.out.below HB1.out) (by have := HL4.out; omega)).mono ?_
  rintro e w2 ⟨g, rfl, hg, hr2, hb2⟩
  have HX2 := Lib.hid (HX1.out.below hb2)
  have HB2 := Lib.hid (HB1.out.trans (hb2.mono HB1.out.size))
  have HR2 := Lib.hid hr2
  have HNE : Hid (w.heap.size ≠ g) := by have := HX1.out.lt; rw [Hid]; omega
  have HG : Hid (w.heap.size ≤ g) := by have := HB1.out.size; rw [Hid]; omega
  clear hr2 hb2 hg
  go_wp2_with fail
  refine (rword_is _ g 0 _ 4 HR2.out (by have := HL4.out; omega)).mono ?_
  rintro e w3 ⟨rfl, hr3, hg3⟩
  rw [HW.out]
  have HX3 := Lib.hid (HX2.out.grown hg3 HNE.out)
  have HB3 := Lib.hid (HB2.out.grown hg3 HB2.out.size (fun k e => by injection e with e; exact e ▸ HG.out))
  clear hr3 hg3
  have HNW : Hid ((numW l : Int) % 4294967296 = (numW l : Int)) := by have := HNL.out; rw [Hid]; omega
  generalize hnw : numW l = nw at *
  have HQ := Lib.hid hnw
  clear hnw
  go_wp2_with fail
  refine (cloneb_any _ _ _ (B2.out.below HB3.out) (by rw [List.length_drop]; have := HLL.out; omega)).mono ?_
  rintro e w4 ⟨v4, rfl, hown4, hb4⟩
  have HX4 := Lib.hid (HX3.out.below hb4)
  have HB4 := Lib.hid (HB3.out.trans (hb4.mono HB3.out.size))
  have HO4 := Lib.hid (hown4.lower HB3.out.size)
  obtain ⟨A4, n4, c4, rfl, N4, hnc4, hcm4⟩ := hown4.byt.form
  obtain ⟨d0, d1, d2⟩ := HX4.out.cells
  have f0 := HX4.out.frozen 0
  have f1 := HX4.out.frozen 1
  have f2 := HX4.out.frozen 2
  clear hown4 hb4
  go_wp2_with fail
  rw [HNW.out]
  have HX9 := Lib.hid (HX4.out.set x nw (.slice A4 n4 c4))
  have HB9 := Lib.hid (bel_set3 HB4.out (Nat.le_refl _) (.int .i64 x) (.int .u32 nw) (.slice A4 n4 c4))
  have HO9 := Lib.hid (Own.set3 HX4.out (.int .i64 x) (.int .u32 nw) (.slice A4 n4 c4) HO4.out)
  generalize ((w4.setCell ⟨w.heap.size, 0, none⟩ (.int .i64 x)).setCell ⟨w.heap.size, 1, none⟩ (.int .u32 nw)).setCell ⟨w.heap.size, 2, none⟩ (.slice A4 n4 c4) = w9 at *
  clear d0 d1 d2
  obtain ⟨d0, d1, d2⟩ := HX9.out.cells
  refine bodyPost_ret (v := .tuple #[.agg (pageV x nw (.slice A4 n4 c4)), .int .i64 0]) (by simp [results, Tryd.results10, go_sem, pageV, d0, d1, d2]) rfl ?_
  exact ⟨_, by rw [HQ.out], HO9.out, HB9.out⟩
/-- What a call that tells yes or no, and may make memory, leaves. -/
def BoolB (w : World) (b : Bool) (e : Ending) (w' : World) : Prop := e = .returned (.bool b) ∧ Below w.heap.size w w'
set_option maxRecDepth 100000 in
set_option maxHeartbeats 4000000 in
theorem same_any (w : World) (k n k' n' : Int) (va vb : Value) (l l' : List UInt8) (hva : Byt w va l) (hvb : Byt w vb l') :
    Calls Tryd.prog 17 #[.agg (pageV k n va), .agg (pageV k' n' vb)] w (BoolB w (decide (k = k' ∧ n = n' ∧ trimR l = trimR l'))) := by
  obtain ⟨A1, m1, c1, rfl, N1, hnc1, hcm1⟩ := hva.form
  obtain ⟨A2, m2, c2, rfl, N2, hnc2, hcm2⟩ := hvb.form
  obtain ⟨w1, hw1⟩ : ∃ w1, w1 = w.alloc (.cells (pageV k n (.slice A1 m1 c1)) 28) := ⟨_, rfl⟩
  obtain ⟨w2, hw2⟩ : ∃ w2, w2 = w1.alloc (.cells (pageV k' n' (.slice A2 m2 c2)) 28) := ⟨_, rfl⟩
  have hb1 : Below w.heap.size w w1 := hw1 ▸ below_new w _
  have hb2 : Below w1.heap.size w1 w2 := hw2 ▸ below_new w1 _
  have HB : Hid (Below w.heap.size w w2.drew) := (hb1.trans (hb2.mono hb1.size)).drew
  have HXA : Hid (Box w2.drew w.heap.size k n (.slice A1 m1 c1)) := (hw1 ▸ Box.new w k n (.slice A1 m1 c1) : Box w1 _ _ _ _).below hb2.drew
  have HXB : Hid (Box w2.drew (w.heap.size + 1) k' n' (.slice A2 m2 c2)) := by
    have : Box w2 w1.heap.size k' n' (.slice A2 m2 c2) := hw2 ▸ Box.new w1 k' n' (.slice A2 m2 c2)
    rw [show w1.heap.size = w.heap.size + 1 by rw [hw1]; simp] at this
    exact this
  have HVA : Hid (Byt w2.drew (.slice A1 m1 c1) l) := hva.below HB.out
  have HVB : Hid (Byt w2.drew (.slice A2 m2 c2) l') := hvb.below HB.out
  have HW2 : Hid ((w.alloc (.cells (pageV k n (.slice A1 m1 c1)) 28)).alloc (.cells (pageV k' n' (.slice A2 m2 c2)) 28) = w2) := by rw [Hid, hw2, hw1]
  clear hva hvb hb1 hb2 hw1 hw2
  unfold pageV at HW2 ⊢
  by_cases hk : k = k'
  · subst hk
    by_cases hn : n = n'
    · subst hn
      have HD : Hid (decide (k = k ∧ n = n ∧ trimR l = trimR l') = decide (trimR l = trimR l')) := by rw [Hid]; simp
      go_enter Tryd.func17, Tryd.ntmps17
      go_wp2_with fail
      refine wp_region_R (R := fun x y => Below x.heap.size x y) (by kernel_rfl) (fun _ => Below.refl _ _) (fun h k => h.trans (k.mono h.size)) (by kernel_rfl) (fun d v c a w h => by cases d <;> exact h)
        [(0, false), (1, false), (2, false), (3, false), (4, false), (5, false), (6, false), (7, false), (8, false), (9, false), (10, false), (11, false), (12, false), (13, false), (14, false), (16, false), (17, false), (15, true), (18, true), (19, true), (20, false), (21, false)] rfl (by kernel_rfl) (by kernel_rfl) ?_
      simp only [sel, List.getElem?_toArray, List.getElem?_cons_succ, List.getElem?_cons_zero]
      rw [HW2.out]
      generalize w2.drew = wd at *
      (refine sch_take ?_ rfl ?_ ?_; rotate_left; (focus (intro u hu; go_simp <;> rfl)); simp only [Act.put, List.setIfInBounds_toArray, List.set_cons_zero, List.set_cons_succ])
      (refine sch_take ?_ rfl ?_ ?_; rotate_left; (focus (intro u hu; have c := (HXA.out.below hu).cells.1; clear hu; go_simp <;> rfl)); simp only [Act.put, List.setIfInBounds_toArray, List.set_cons_zero, List.set_cons_succ])
      (refine sch_take ?_ rfl ?_ ?_; rotate_left; (focus (intro u hu; go_simp <;> rfl)); simp only [Act.put, List.setIfInBounds_toArray, List.set_cons_zero, List.set_cons_succ])
      (refine sch_take ?_ rfl ?_ ?_; rotate_left; (focus (intro u hu; have c := (HXB.out.below hu).cells.1; clear hu; go_simp <;> rfl)); simp only [Act.put, List.setIfInBounds_toArray, List.set_cons_zero, List.set_cons_succ])
      iterate 3 (refine sch_take ?_ rfl ?_ ?_; rotate_left; (focus (intro u hu; go_simp <;> rfl)); simp only [Act.put, List.setIfInBounds_toArray, List.set_cons_zero, List.set_cons_succ])
      (refine sch_take ?_ rfl ?_ ?_; rotate_left; (focus (intro u hu; have c := (HXA.out.below hu).cells.2.1; clear hu; go_simp <;> rfl)); simp only [Act.put, List.setIfInBounds_toArray, List.set_cons_zero, List.set_cons_succ])
      (refine sch_take ?_ rfl ?_ ?_; rotate_left; (focus (intro u hu; go_simp <;> rfl)); simp only [Act.put, List.setIfInBounds_toArray, List.set_cons_zero, List.set_cons_succ])
      (refine sch_take ?_ rfl ?_ ?_; rotate_left; (focus (intro u hu; have c := (HXB.out.below hu).cells.2.1; clear hu; go_simp <;> rfl)); simp only [Act.put, List.setIfInBounds_toArray, List.set_cons_zero, List.set_cons_succ])
      iterate 4 (refine sch_take ?_ rfl ?_ ?_; rotate_left; (focus (intro u hu; go_simp <;> rfl)); simp only [Act.put, List.setIfInBounds_toArray, List.set_cons_zero, List.set_cons_succ])
      (refine sch_take ?_ rfl ?_ ?_; rotate_left; (focus (intro u hu; have c := (HXA.out.below hu).cells.2.2; clear hu; go_simp <;> rfl)); simp only [Act.put, List.setIfInBounds_toArray, List.set_cons_zero, List.set_cons_succ])
      (refine sch_take ?_ rfl ?_ ?_; rotate_left; (focus (intro u hu; go_simp <;> rfl)); simp only [Act.put, List.setIfInBounds_toArray, List.set_cons_zero, List.set_cons_succ])
      (refine sch_take ?_ rfl ?_ ?_; rotate_left; (focus (intro u hu; have c := (HXB.out.below hu).cells.2.2; clear hu; go_simp <;> rfl)); simp only [Act.put, List.setIfInBounds_toArray, List.set_cons_zero, List.set_cons_succ])
      refine sch_call rfl ?_
      intro K hK
      go_simp
      refine (trimmed_any _ _ _ HVA.out).mono ?_
      rintro e w3 ⟨v3, rfl, hb3, rfl⟩
      go_wp2_with fail
      refine hK _ _ (Below.refl _ _) ?_
      clear hK K
      have H3 := Lib.hid hb3
      obtain ⟨A3, n3, c3, rfl, N3, hnc3, hcm3⟩ := hb3.form
      clear hb3
      refine sch_call rfl ?_
      intro K hK
      go_simp
      refine (trimmed_any _ _ _ HVB.out).mono ?_
      rintro e w4 ⟨v4, rfl, hb4, rfl⟩
      go_wp2_with fail
      refine hK _ _ (Below.refl _ _) ?_
      clear hK K
      have H4 := Lib.hid hb4
      obtain ⟨A4, n4, c4, rfl, N4, hnc4, hcm4⟩ := hb4.form
      clear hb4
      refine sch_call rfl ?_
      intro K hK
      go_simp
      refine (equal_any _ _ _ _ _ H3.out H4.out).mono ?_
      rintro e w5 ⟨rfl, rfl⟩; obtain ⟨bq, HE⟩ : ∃ bq, Hid (decide (trimR l = trimR l') = bq) := ⟨_, rfl⟩; rw [HE.out]
      go_wp2_with fail
      refine hK _ _ (Below.refl _ _) ?_
      clear hK K
      iterate 2 (refine sch_take ?_ rfl ?_ ?_; rotate_left; (focus (intro u hu; go_simp <;> rfl)); simp only [Act.put, List.setIfInBounds_toArray, List.set_cons_zero, List.set_cons_succ])
      refine sch_nil ?_
      go_wp2_with fail
      go_ret
      rw [HD.out, HE.out]
      exact ⟨rfl, HB.out⟩
    · have hne : (n == n') = false := by simp; exact hn
      have HD : Hid (decide (k = k ∧ n = n' ∧ trimR l = trimR l') = false) := by rw [Hid]; simp [hn]
      clear hn
      go_enter Tryd.func17, Tryd.ntmps17
      go_wp2_with fail
      refine wp_region_R (R := fun x y => Below x.heap.size x y) (by kernel_rfl) (fun _ => Below.refl _ _) (fun h k => h.trans (k.mono h.size)) (by kernel_rfl) (fun d v c a w h => by cases d <;> exact h)
        [(0, false), (1, false), (2, false), (3, false), (4, false), (5, false), (6, false), (7, false), (8, false), (9, false), (10, false), (11, false), (12, false), (13, false), (14, false), (16, false), (17, false), (15, true), (18, true), (19, true), (20, false), (21, false)] rfl (by kernel_rfl) (by kernel_rfl) ?_
      simp only [sel, List.getElem?_toArray, List.getElem?_cons_succ, List.getElem?_cons_zero]
      rw [HW2.out]
      generalize w2.drew = wd at *
      (refine sch_take ?_ rfl ?_ ?_; rotate_left; (focus (intro u hu; go_simp <;> rfl)); simp only [Act.put, List.setIfInBounds_toArray, List.set_cons_zero, List.set_cons_succ])
      (refine sch_take ?_ rfl ?_ ?_; rotate_left; (focus (intro u hu; have c := (HXA.out.below hu).cells.1; clear hu; go_simp <;> rfl)); simp only [Act.put, List.setIfInBounds_toArray, List.set_cons_zero, List.set_cons_succ])
      (refine sch_take ?_ rfl ?_ ?_; rotate_left; (focus (intro u hu; go_simp <;> rfl)); simp only [Act.put, List.setIfInBounds_toArray, List.set_cons_zero, List.set_cons_succ])
      (refine sch_take ?_ rfl ?_ ?_; rotate_left; (focus (intro u hu; have c := (HXB.out.below hu).cells.1; clear hu; go_simp <;> rfl)); simp only [Act.put, List.setIfInBounds_toArray, List.set_cons_zero, List.set_cons_succ])
      iterate 3 (refine sch_take ?_ rfl ?_ ?_; rotate_left; (focus (intro u hu; go_simp <;> rfl)); simp only [Act.put, List.setIfInBounds_toArray, List.set_cons_zero, List.set_cons_succ])
      (refine sch_take ?_ rfl ?_ ?_; rotate_left; (focus (intro u hu; have c := (HXA.out.below hu).cells.2.1; clear hu; go_simp <;> rfl)); simp only [Act.put, List.setIfInBounds_toArray, List.set_cons_zero, List.set_cons_succ])
      (refine sch_take ?_ rfl ?_ ?_; rotate_left; (focus (intro u hu; go_simp <;> rfl)); simp only [Act.put, List.setIfInBounds_toArray, List.set_cons_zero, List.set_cons_succ])
      (refine sch_take ?_ rfl ?_ ?_; rotate_left; (focus (intro u hu; have c := (HXB.out.below hu).cells.2.1; clear hu; go_simp <;> rfl)); simp only [Act.put, List.setIfInBounds_toArray, List.set_cons_zero, List.set_cons_succ])
      iterate 3 (refine sch_take ?_ rfl ?_ ?_; rotate_left; (focus (intro u hu; go_simp <;> rfl)); simp only [Act.put, List.setIfInBounds_toArray, List.set_cons_zero, List.set_cons_succ])
      refine sch_idle rfl ?_
      simp only [Act.put, List.setIfInBounds_toArray, List.set_cons_zero, List.set_cons_succ]
      refine sch_idle rfl ?_
      simp only [Act.put, List.setIfInBounds_toArray, List.set_cons_zero, List.set_cons_succ]
      refine sch_idle rfl ?_
      simp only [Act.put, List.setIfInBounds_toArray, List.set_cons_zero, List.set_cons_succ]
      refine sch_idle rfl ?_
      simp only [Act.put, List.setIfInBounds_toArray, List.set_cons_zero, List.set_cons_succ]
      refine sch_idleC rfl ?_
      simp only [Act.put, List.setIfInBounds_toArray, List.set_cons_zero, List.set_cons_succ]
      refine sch_idleC rfl ?_
      simp only [Act.put, List.setIfInBounds_toArray, List.set_cons_zero, List.set_cons_succ]
      refine sch_idleC rfl ?_
      simp only [Act.put, List.setIfInBounds_toArray, List.set_cons_zero, List.set_cons_succ]
      iterate 2 (refine sch_take ?_ rfl ?_ ?_; rotate_left; (focus (intro u hu; go_simp <;> rfl)); simp only [Act.put, List.setIfInBounds_toArray, List.set_cons_zero, List.set_cons_succ])
      refine sch_nil ?_
      go_wp2_with fail
      go_ret
      rw [HD.out]
      exact ⟨rfl, HB.out⟩
  · have hne : (k == k') = false := by simp; exact hk
    have HD : Hid (decide (k = k' ∧ n = n' ∧ trimR l = trimR l') = false) := by rw [Hid]; simp [hk]
    clear hk
    go_enter Tryd.func17, Tryd.ntmps17
    go_wp2_with fail
    refine wp_region_R (R := fun x y => Below x.heap.size x y) (by kernel_rfl) (fun _ => Below.refl _ _) (fun h k => h.trans (k.mono h.size)) (by kernel_rfl) (fun d v c a w h => by cases d <;> exact h)
      [(0, false), (1, false), (2, false), (3, false), (4, false), (5, false), (6, false), (7, false), (8, false), (9, false), (10, false), (11, false), (12, false), (13, false), (14, false), (16, false), (17, false), (15, true), (18, true), (19, true), (20, false), (21, false)] rfl (by kernel_rfl) (by kernel_rfl) ?_
    simp only [sel, List.getElem?_toArray, List.getElem?_cons_succ, List.getElem?_cons_zero]
    rw [HW2.out]
    generalize w2.drew = wd at *
    (refine sch_take ?_ rfl ?_ ?_; rotate_left; (focus (intro u hu; go_simp <;> rfl)); simp only [Act.put, List.setIfInBounds_toArray, List.set_cons_zero, List.set_cons_succ])
    (refine sch_take ?_ rfl ?_ ?_; rotate_left; (focus (intro u hu; have c := (HXA.out.below hu).cells.1; clear hu; go_simp <;> rfl)); simp only [Act.put, List.setIfInBounds_toArray, List.set_cons_zero, List.set_cons_succ])
    (refine sch_take ?_ rfl ?_ ?_; rotate_left; (focus (intro u hu; go_simp <;> rfl)); simp only [Act.put, List.setIfInBounds_toArray, List.set_cons_zero, List.set_cons_succ])
    (refine sch_take ?_ rfl ?_ ?_; rotate_left; (focus (intro u hu; have c := (HXB.out.below hu).cells.1; clear hu; go_simp <;> rfl)); simp only [Act.put, List.setIfInBounds_toArray, List.set_cons_zero, List.set_cons_succ])
    iterate 2 (refine sch_take ?_ rfl ?_ ?_; rotate_left; (focus (intro u hu; go_simp <;> rfl)); simp only [Act.put, List.setIfInBounds_toArray, List.set_cons_zero, List.set_cons_succ])
    refine sch_idle rfl ?_
    simp only [Act.put, List.setIfInBounds_toArray, List.set_cons_zero, List.set_cons_succ]
    refine sch_idle rfl ?_
    simp only [Act.put, List.setIfInBounds_toArray, List.set_cons_zero, List.set_cons_succ]
    refine sch_idle rfl ?_
    simp only [Act.put, List.setIfInBounds_toArray, List.set_cons_zero, List.set_cons_succ]
    refine sch_idle rfl ?_
    simp only [Act.put, List.setIfInBounds_toArray, List.set_cons_zero, List.set_cons_succ]
    refine sch_idle rfl ?_
    simp only [Act.put, List.setIfInBounds_toArray, List.set_cons_zero, List.set_cons_succ]
    iterate 2 (refine sch_take ?_ rfl ?_ ?_; rotate_left; (focus (intro u hu; go_simp <;> rfl)); simp only [Act.put, List.setIfInBounds_toArray, List.set_cons_zero, List.set_cons_succ])
    refine sch_idle rfl ?_
    simp only [Act.put, List.setIfInBounds_toArray, List.set_cons_zero, List.set_cons_succ]
    refine sch_idle rfl ?_
    simp only [Act.put, List.setIfInBounds_toArray, List.set_cons_zero, List.set_cons_succ]
    refine sch_idle rfl ?_
    simp only [Act.put, List.setIfInBounds_toArray, List.set_cons_zero, List.set_cons_succ]
    refine sch_idle rfl ?_
    simp only [Act.put, List.setIfInBounds_toArray, List.set_cons_zero, List.set_cons_succ]
    refine sch_idleC rfl ?_
    simp only [Act.put, List.setIfInBounds_toArray, List.set_cons_zero, List.set_cons_succ]
    refine sch_idleC rfl ?_
    simp only [Act.put, List.setIfInBounds_toArray, List.set_cons_zero, List.set_cons_succ]
    refine sch_idleC rfl ?_
    simp only [Act.put, List.setIfInBounds_toArray, List.set_cons_zero, List.set_cons_succ]
    iterate 2 (refine sch_take ?_ rfl ?_ ?_; rotate_left; (focus (intro u hu; go_simp <;> rfl)); simp only [Act.put, List.setIfInBounds_toArray, List.set_cons_zero, List.set_cons_succ])
    refine sch_nil ?_
    go_wp2_with fail
    go_ret
    rw [HD.out]
    exact ⟨rfl, HB.out⟩
end Go.Proofs.YtagchbpofoidmaaDoor
