/-
  tallymanref08.Both. Conditions: none.
-/
import Derived.Test.YtncjobeahpjnpaaSpM
namespace Go.Proofs.Ytncjobeahpjnpaa
open Go.ChangeShapes Go.WideShapes Go.ChangeAt Go.RowKit Go.Maps
set_option maxRecDepth 100000
set_option linter.unusedVariables false
set_option linter.unusedSimpArgs false

section
variable {P : Program} {ops : Array Oper} {Q : Exit → Act → World → Prop} {R : World → World → Prop}
theorem schT_idle {L : Act → World → Prop} {o : Oper} {rest : List (Oper × Bool)} {a : Act} {w : World} (hw : Region.wanted o (yielded ops a.tmps) = false)
    (h : wpSchT P ops Q R L rest (a.put o.dst undef) w) : wpSchT P ops Q R L ((o, false) :: rest) a w := ⟨undef, .inr ⟨hw, rfl⟩, h⟩
end
theorem or_snoc {l m : List Bool} {k : Nat} {b c : Bool} (hb : l[k]? = some b) (hc : m[k]? = some c) : (spOr l m).take (k + 1) = (spOr l m).take k ++ [b || c] := by
  have h : (spOr l m)[k]? = some (b || c) := by unfold spOr; rw [List.getElem?_zipWith, hb, hc]
  rw [List.take_add_one, h]
  rfl
theorem booC_app (l m : List Bool) : booC (l ++ m) = booC l ++ booC m := by simp [booC]
set_option maxHeartbeats 2000000 in
theorem r8Both_not (w : World) (p q : Int) (v x : Value) (l m : List Bool) (hv : Boos w v l) (hx : Boos w x m) (hlen : l.length ≤ 70368744177664) (hlenm : m.length ≤ 70368744177664) (hno : ¬ spOk p l ∨ ¬ spOk q m ∨ p ≠ q) :
    Calls Try.prog 22 #[.agg #[.int .i64 p, v], .agg #[.int .i64 q, x]] w (SpOut w (0, [], 2)) := by
  obtain ⟨w0, hw0, hb0, hz, hT⟩ := bo_boxes w p v q x
  have HCA := Lib.hid fun W (h : Below w0.heap.size w0 W) => r8check_any W p v l (hv.below (hb0.trans (h.mono hb0.size))) hlen
  have HCB := Lib.hid fun W (h : Below w0.heap.size w0 W) => r8check_any W q x m (hx.below (hb0.trans (h.mono hb0.size))) hlenm
  have HV := Lib.hid hv
  have HX := Lib.hid hx
  obtain ⟨A, n, c, rfl, N, hnc, hcm⟩ := hv.form
  obtain ⟨A', n', c', rfl, N', hnc', hcm'⟩ := hx.form
  have HB0 := Lib.hid hb0
  have HZ := Lib.hid hz
  have HW0 := Lib.hid hw0
  have HT := Lib.hid hT
  clear hv hx hb0 hz hw0 hT
  by_cases hok : spOk p l
  · rw [if_pos hok] at HCA
    by_cases hom : spOk q m
    · rw [if_pos hom] at HCB
      have hpq : p ≠ q := hno.elim (fun h => absurd hok h) (fun h => h.elim (fun h => absurd hom h) id)
      have hpq' : (p == q) = false := by simpa using hpq
      clear hok hom hno
      go_enter Try.func22, Try.ntmps22
      go_wp2_with fail
      rw [HW0.out]
      refine (HCA.out w0 (Below.refl _ _)).mono ?_
      rintro e w1 ⟨rfl, hb1⟩
      have HBB1 : Hid (Below w0.heap.size w0 w1) := hb1
      have HT1 : Hid (BoSt w w1 p (.slice A n c) q (.slice A' n' c') 0 (.slice none 0 0)) := HT.out.below HBB1.out
      have HB1 : Hid (Below w.heap.size w w1) := HB0.out.trans (HBB1.out.mono HB0.out.size)
      have a0 := HT1.out.1.c0
      have a1 := HT1.out.1.c1
      have b0 := HT1.out.2.1.c0
      have b1 := HT1.out.2.1.c1
      clear hb1
      go_wp2_with fail
      refine (HCB.out w1 HBB1.out).mono ?_
      rintro e w2 ⟨rfl, hb2⟩
      have HBB2 : Hid (Below w0.heap.size w0 w2) := HBB1.out.trans (hb2.mono HBB1.out.size)
      have HT2 : Hid (BoSt w w2 p (.slice A n c) q (.slice A' n' c') 0 (.slice none 0 0)) := HT.out.below HBB2.out
      have HB2 : Hid (Below w.heap.size w w2) := HB0.out.trans (HBB2.out.mono HB0.out.size)
      have a0 := HT2.out.1.c0
      have a1 := HT2.out.1.c1
      have b0 := HT2.out.2.1.c0
      have b1 := HT2.out.2.1.c1
      clear hb2
      go_wp2_with (refine wpList_storeS HT2.out.2.2 spInfo rfl _ _ rfl rfl (ds := [.int .i64 0, .slice none 0 0]) rfl rfl (nil_one 0) ?_; intro w9 hR9 hg9 hz9)
      refine ret_s2 hR9 Try.underlying24 spInfo rfl rfl rfl _ rfl ?_
      exact ⟨_, rfl, OwnV.nil _ _ _, HB2.out.grown hg9 HB2.out.size (fun k e => by cases e; omega)⟩
    · rw [if_neg hom] at HCB
      clear hok hom hno
      go_enter Try.func22, Try.ntmps22
      go_wp2_with fail
      rw [HW0.out]
      refine (HCA.out w0 (Below.refl _ _)).mono ?_
      rintro e w1 ⟨rfl, hb1⟩
      have HBB1 : Hid (Below w0.heap.size w0 w1) := hb1
      have HT1 : Hid (BoSt w w1 p (.slice A n c) q (.slice A' n' c') 0 (.slice none 0 0)) := HT.out.below HBB1.out
      have HB1 : Hid (Below w.heap.size w w1) := HB0.out.trans (HBB1.out.mono HB0.out.size)
      have a0 := HT1.out.1.c0
      have a1 := HT1.out.1.c1
      have b0 := HT1.out.2.1.c0
      have b1 := HT1.out.2.1.c1
      clear hb1
      go_wp2_with fail
      refine (HCB.out w1 HBB1.out).mono ?_
      rintro e w2 ⟨rfl, hb2⟩
      have HBB2 : Hid (Below w0.heap.size w0 w2) := HBB1.out.trans (hb2.mono HBB1.out.size)
      have HT2 : Hid (BoSt w w2 p (.slice A n c) q (.slice A' n' c') 0 (.slice none 0 0)) := HT.out.below HBB2.out
      have HB2 : Hid (Below w.heap.size w w2) := HB0.out.trans (HBB2.out.mono HB0.out.size)
      have a0 := HT2.out.1.c0
      have a1 := HT2.out.1.c1
      have b0 := HT2.out.2.1.c0
      have b1 := HT2.out.2.1.c1
      clear hb2
      go_wp2_with (refine wpList_storeS HT2.out.2.2 spInfo rfl _ _ rfl rfl (ds := [.int .i64 0, .slice none 0 0]) rfl rfl (nil_one 0) ?_; intro w9 hR9 hg9 hz9)
      refine ret_s2 hR9 Try.underlying24 spInfo rfl rfl rfl _ rfl ?_
      exact ⟨_, rfl, OwnV.nil _ _ _, HB2.out.grown hg9 HB2.out.size (fun k e => by cases e; omega)⟩
  · rw [if_neg hok] at HCA
    clear hok hno
    go_enter Try.func22, Try.ntmps22
    go_wp2_with fail
    rw [HW0.out]
    refine (HCA.out w0 (Below.refl _ _)).mono ?_
    rintro e w1 ⟨rfl, hb1⟩
    have HBB1 : Hid (Below w0.heap.size w0 w1) := hb1
    have HT1 : Hid (BoSt w w1 p (.slice A n c) q (.slice A' n' c') 0 (.slice none 0 0)) := HT.out.below HBB1.out
    have HB1 : Hid (Below w.heap.size w w1) := HB0.out.trans (HBB1.out.mono HB0.out.size)
    have a0 := HT1.out.1.c0
    have a1 := HT1.out.1.c1
    have b0 := HT1.out.2.1.c0
    have b1 := HT1.out.2.1.c1
    clear hb1
    go_wp2_with (refine wpList_storeS HT1.out.2.2 spInfo rfl _ _ rfl rfl (ds := [.int .i64 0, .slice none 0 0]) rfl rfl (nil_one 0) ?_; intro w9 hR9 hg9 hz9)
    refine ret_s2 hR9 Try.underlying24 spInfo rfl rfl rfl _ rfl ?_
    exact ⟨_, rfl, OwnV.nil _ _ _, HB1.out.grown hg9 HB1.out.size (fun k e => by cases e; omega)⟩
def RbRel (w : World) (p : Int) (v x : Value) (l m : List Bool) (G : Nat) (i : Value) (u : World) : Prop :=
  ∃ (k : Nat) (dv : Value), k ≤ l.length ∧ i = .int .i64 (k : Int) ∧ BoSt w u p v p x 0 (.slice none 0 0) ∧ SpBox u G p dv ∧ OwnB u (G + 1) dv ((spOr l m).take k) ∧ Below w.heap.size w u
set_option maxRecDepth 100000 in
set_option maxHeartbeats 8000000 in
theorem r8Both_ok (w : World) (p : Int) (v x : Value) (l m : List Bool) (hv : Boos w v l) (hx : Boos w x m) (hok : spOk p l) (hom : spOk p m) :
    Calls Try.prog 22 #[.agg #[.int .i64 p, v], .agg #[.int .i64 p, x]] w (SpOut w (p, spOr l m, 0)) := by
  have hlen : l.length ≤ 70368744177664 := by have := spOk_len hok; omega
  have hlenm : m.length ≤ 70368744177664 := by have := spOk_len hom; omega
  obtain ⟨i0, hi0, hz0, hz1, hz2⟩ := info_parts binfo
  have HI0 : Hid (∃ i, Try.prog.info? 4 = some i ∧ i.zero = some (.bool false) ∧ i.size = 1 ∧ i.bytes = 1) := ⟨i0, hi0, hz0, hz1, hz2⟩
  clear hi0 hz0 hz1 hz2
  clear i0
  obtain ⟨w0, hw0, hb0, hz, hT⟩ := bo_boxes w p v p x
  have HCA := Lib.hid fun W (h : Below w0.heap.size w0 W) => r8check_any W p v l (hv.below (hb0.trans (h.mono hb0.size))) hlen
  have HCB := Lib.hid fun W (h : Below w0.heap.size w0 W) => r8check_any W p x m (hx.below (hb0.trans (h.mono hb0.size))) hlenm
  have HV := Lib.hid hv
  have HX := Lib.hid hx
  obtain ⟨A, n, c, rfl, N, hnc, hcm⟩ := hv.form
  obtain ⟨A', n', c', rfl, N', hnc', hcm'⟩ := hx.form
  have HB0 := Lib.hid hb0
  have HZ := Lib.hid hz
  have HW0 := Lib.hid hw0
  have HT := Lib.hid hT
  clear hv hx hb0 hz hw0 hT
  rw [if_pos hok] at HCA
  rw [if_pos hom] at HCB
  have hl := spOk_len hok
  have hm := spOk_len hom
  have HLM : Hid (l.length = m.length) := show l.length = m.length by omega
  have HLP : Hid ((l.length : Int) = p) := hl.1
  have HL8 : Hid (8 ≤ l.length ∧ l.length ≤ 4096) := ⟨hl.2.1, hl.2.2⟩
  clear hok hom hl hm hlen hlenm
  go_enter Try.func22, Try.ntmps22
  go_wp2_with fail
  rw [HW0.out]
  refine (HCA.out w0 (Below.refl _ _)).mono ?_
  rintro e w1 ⟨rfl, hb1⟩
  have HBB1 : Hid (Below w0.heap.size w0 w1) := hb1
  have HT1 : Hid (BoSt w w1 p (.slice A n c) p (.slice A' n' c') 0 (.slice none 0 0)) := HT.out.below HBB1.out
  have HB1 : Hid (Below w.heap.size w w1) := HB0.out.trans (HBB1.out.mono HB0.out.size)
  have a0 := HT1.out.1.c0
  have a1 := HT1.out.1.c1
  have b0 := HT1.out.2.1.c0
  have b1 := HT1.out.2.1.c1
  clear hb1
  go_wp2_with fail
  refine (HCB.out w1 HBB1.out).mono ?_
  rintro e w2 ⟨rfl, hb2⟩
  have HBB2 : Hid (Below w0.heap.size w0 w2) := HBB1.out.trans (hb2.mono HBB1.out.size)
  have HT2 : Hid (BoSt w w2 p (.slice A n c) p (.slice A' n' c') 0 (.slice none 0 0)) := HT.out.below HBB2.out
  have HB2 : Hid (Below w.heap.size w w2) := HB0.out.trans (HBB2.out.mono HB0.out.size)
  have a0 := HT2.out.1.c0
  have a1 := HT2.out.1.c1
  have b0 := HT2.out.2.1.c0
  have b1 := HT2.out.2.1.c1
  clear hb2

  have n0 : (w2.alloc (.cells #[.int .i64 0, .slice none 0 0] 24)).cell? ⟨w.heap.size, 0, none⟩ = some (.int .i64 p) := (HT2.out.below (below_new w2 _)).1.c0
  go_wp2_with (refine wpList_storeS (SBox.new w2 24 [.int .i64 0, .slice none 0 0]) spInfo rfl _ _ rfl rfl (ds := [.int .i64 p, .slice none 0 0]) rfl rfl (nil_one p) ?_; intro w3 hS3 hg3 hz3)
  have HT3 : Hid (BoSt w w3 p (.slice A n c) p (.slice A' n' c') 0 (.slice none 0 0)) := BoSt.turn (row := some w2.heap.size) (B := w2.heap.size) (HT2.out.below (below_new w2 _)) HT2.out.size hg3 (fun r e => by cases e; exact Nat.le_refl _)
  have HB3 : Hid (Below w.heap.size w w3) := (HB2.out.alloc HB2.out.size _).grown hg3 (by have := HB2.out.size; rw [World.size_alloc]; omega) (fun j e => by cases e; exact HB2.out.size)
  have hG2 : w.heap.size + 3 ≤ w2.heap.size := HT2.out.size
  clear n0 a0 a1 b0 b1 hg3 hz3
  generalize w2.heap.size = G at *
  have HG : Hid (w.heap.size + 3 ≤ G) := hG2
  have HS3 := Lib.hid hS3
  clear hG2 hS3
  go_loopw [7] (fun i u => RbRel w p (.slice A n c) (.slice A' n' c') l m G i u) (fun i _ => l.length - (intOf i).toNat)
  case atStart => exact ⟨0, _, Nat.zero_le _, rfl, HT3.out, HS3.out, OwnV.nil _ _ _, HB3.out⟩
  case round =>
    obtain ⟨k, dv, hk, rfl, hT, hS, hO, hB⟩ := hrel
    obtain ⟨Ad, nd, cd, rfl, ND, _, _⟩ := (OwnB.boos hO).form
    have HTR := Lib.hid hT
    have HSR := Lib.hid hS
    have HOR := Lib.hid hO
    have HBR := Lib.hid hB
    have a0 := hT.1.c0
    clear hT hS hO hB
    by_cases hlt : k < l.length
    · have hkp : (k : Int) < p := by have := HLP.out; omega
      have hkn : (k : Int) < (n : Int) := by have := N.out; omega
      have hkn' : (k : Int) < (n' : Int) := by have := N'.out; have := HLM.out; omega
      obtain ⟨wd, hwd⟩ : ∃ u, wr.drew = u := ⟨_, rfl⟩
      have HWD := Lib.hid hwd
      have hbd : Below wr.heap.size wr wd := hwd ▸ (Below.refl _ wr).drew
      have HTD : Hid (BoSt w wd p (.slice A n c) p (.slice A' n' c') 0 (.slice none 0 0)) := HTR.out.below hbd
      have HSD : Hid (SpBox wd G p (.slice Ad nd cd)) := HSR.out.below hbd
      have HOD : Hid (OwnB wd (G + 1) (.slice Ad nd cd) ((spOr l m).take k)) := OwnV.keep HOR.out hbd
      have HBD : Hid (Below w.heap.size w wd) := HBR.out.trans (hbd.mono HBR.out.size)
      have HTK : Hid (((spOr l m).take k).length ≤ 4096) := by rw [Hid, List.length_take]; have := HL8.out; omega
      have HGW : Hid (G + 1 ≤ wd.heap.size) := HSD.out.lt
      have HGA : Hid (w.heap.size < G + 1) := by have := HG.out; show _ < _; omega
      have HGB : Hid (w.heap.size + 1 < G + 1) := by have := HG.out; show _ < _; omega
      obtain ⟨bl, off, rfl, hbl, hcl⟩ := HV.out.at hlt
      obtain ⟨bm, om, rfl, hbm, hcm2⟩ := HX.out.at (show k < m.length by have := HLM.out; omega)
      have CL := Lib.hid ((HBD.out.cell (p := ⟨bl, off + k, none⟩) hbl).trans (hcl k hlt))
      have CM := Lib.hid ((HBD.out.cell (p := ⟨bm, om + k, none⟩) hbm).trans (hcm2 k (by have := HLM.out; omega)))
      have HGL : Hid (bl < G + 1) := by have := HG.out; show _ < _; omega
      have HGM : Hid (bm < G + 1) := by have := HG.out; show _ < _; omega
      have CA := Lib.hid HTD.out.1.c1
      have CB := Lib.hid HTD.out.2.1.c1
      have CG := Lib.hid HSD.out.c1
      have hq : l[k]? = some l[k] := List.getElem?_eq_getElem hlt
      have hq' : m[k]? = some (m[k]'(by have := HLM.out; omega)) := List.getElem?_eq_getElem (by have := HLM.out; omega)
      clear hbl hcl hbm hcm2 hwd hbd
      generalize l[k] = lb at *
      generalize m[k]'(by have := HLM.out; omega) = mb at *
      have HQ : Hid (l[k]? = some lb ∧ m[k]? = some mb) := ⟨hq, hq'⟩
      have HLT := Lib.hid hlt
      clear hq hq' hlt
      cases lb with
      | true =>
        go_wp2_with fail
        refine wp_region_T (R := fun x y => Below (G + 1) x y) (by kernel_rfl) (fun _ => Below.refl _ _) (fun h k => h.trans k) (by kernel_rfl) 17 rfl (by kernel_rfl) (by kernel_rfl) (fun d v c a w h => by cases d <;> exact h)
          [(0, false), (1, false), (2, false), (3, false), (4, false), (5, false), (6, false), (7, false), (8, false), (9, false), (10, false), (11, false), (12, false), (13, false), (14, true), (15, true), (16, false)] rfl (by kernel_rfl) ?_
        simp only [sel, List.getElem?_toArray, List.getElem?_cons_succ, List.getElem?_cons_zero]
        rw [HWD.out]
        (refine schT_take ?_ rfl ?_ ?_; rotate_left; (focus (intro u hu; go_simp <;> rfl)); simp only [Act.put, List.setIfInBounds_toArray, List.set_cons_zero, List.set_cons_succ])
        (refine schT_take ?_ rfl ?_ ?_; rotate_left; (focus (intro u hu; have c1 := (hu.cell (p := ⟨G, 1, none⟩) (Nat.lt_succ_self G)).trans CG.out; clear hu; go_simp <;> rfl)); simp only [Act.put, List.setIfInBounds_toArray, List.set_cons_zero, List.set_cons_succ])
        (refine schT_take ?_ rfl ?_ ?_; rotate_left; (focus (intro u hu; go_simp <;> rfl)); simp only [Act.put, List.setIfInBounds_toArray, List.set_cons_zero, List.set_cons_succ])
        (refine schT_take ?_ rfl ?_ ?_; rotate_left; (focus (intro u hu; have c1 := (hu.cell (p := ⟨w.heap.size, 1, none⟩) HGA.out).trans CA.out; clear hu; go_simp <;> rfl)); simp only [Act.put, List.setIfInBounds_toArray, List.set_cons_zero, List.set_cons_succ])
        iterate 2 (refine schT_take ?_ rfl ?_ ?_; rotate_left; (focus (intro u hu; go_simp <;> rfl)); simp only [Act.put, List.setIfInBounds_toArray, List.set_cons_zero, List.set_cons_succ])
        (refine schT_take ?_ rfl ?_ ?_; rotate_left; (focus (intro u hu; have c1 := (hu.cell (p := ⟨bl, off + k, none⟩) HGL.out).trans CL.out; clear hu; go_simp <;> rfl)); simp only [Act.put, List.setIfInBounds_toArray, List.set_cons_zero, List.set_cons_succ])
        (refine schT_take ?_ rfl ?_ ?_; rotate_left; (focus (intro u hu; go_simp <;> rfl)); simp only [Act.put, List.setIfInBounds_toArray, List.set_cons_zero, List.set_cons_succ])
        refine schT_idle rfl ?_
        simp only [Act.put, List.setIfInBounds_toArray, List.set_cons_zero, List.set_cons_succ]
        refine schT_idle rfl ?_
        simp only [Act.put, List.setIfInBounds_toArray, List.set_cons_zero, List.set_cons_succ]
        refine schT_idle rfl ?_
        simp only [Act.put, List.setIfInBounds_toArray, List.set_cons_zero, List.set_cons_succ]
        refine schT_idle rfl ?_
        simp only [Act.put, List.setIfInBounds_toArray, List.set_cons_zero, List.set_cons_succ]
        refine schT_idle rfl ?_
        simp only [Act.put, List.setIfInBounds_toArray, List.set_cons_zero, List.set_cons_succ]
        (refine schT_take ?_ rfl ?_ ?_; rotate_left; (focus (intro u hu; go_simp <;> rfl)); simp only [Act.put, List.setIfInBounds_toArray, List.set_cons_zero, List.set_cons_succ])
        refine schT_call rfl ?_
        intro K hK
        go_simp
        refine hK _ _ ((below_new wd _).mono HGW.out) ?_
        clear hK K
        obtain ⟨w5, hw5⟩ : ∃ u, wd.alloc (.cells #[.bool true] 4) = u := ⟨_, rfl⟩
        have hb5 : Below wd.heap.size wd w5 := hw5 ▸ below_new _ _
        have HRW : Hid (Rowz w5 (.slice (some ⟨wd.heap.size, 0, none⟩) 1 1) (booC [true])) := hw5 ▸ Rowz.lit wd [.bool true] 4 (by simp [maxLen])
        have HT5 : Hid (BoSt w w5 p (.slice (some ⟨bl, off, none⟩) n c) p (.slice (some ⟨bm, om, none⟩) n' c') 0 (.slice none 0 0)) := HTD.out.below hb5
        have HS5 : Hid (SpBox w5 G p (.slice Ad nd cd)) := HSD.out.below hb5
        have HO5 : Hid (OwnB w5 (G + 1) (.slice Ad nd cd) ((spOr l m).take k)) := OwnV.keep HOD.out hb5
        have HB5 : Hid (Below w.heap.size w w5) := HBD.out.trans (hb5.mono HBD.out.size)
        rw [hw5]
        clear hw5 hb5
        try simp only [Act.put, List.setIfInBounds_toArray, List.set_cons_zero, List.set_cons_succ]
        refine schT_call rfl ?_
        intro K hK
        obtain ⟨i0, hi0, hz0, hz1, hz2⟩ := HI0.out
        refine wp_appV (.tmp 34) (.tmp 47) _ rfl (G + 1) 4 1 i0 _ Try.underlying22 hi0 hz0 hz1 hz2 rfl _ (booC ((spOr l m).take k)) rfl HO5.out _ (booC [true]) rfl HRW.out (booC_one _) (by have := HTK.out; simp only [booC_len, List.length_cons, List.length_nil]; omega) (by have := HTK.out; simp only [booC_len, List.length_cons, List.length_nil, maxLen]; omega) HS5.out.lt ?_
        intro dv2 w6 ho hg hat
        refine hK _ _ ((Below.refl _ _).grown hg HS5.out.lt (fun j hj => (World.ownsRow.lt HO5.out _ hj).1)) ?_
        clear hK K hat hi0 hz0 hz1 hz2 i0
        have hrow : ∀ r, (Value.slice Ad nd cd).ownBlock = some r → G + 1 ≤ r := fun r hr => (World.ownsRow.lt HO5.out _ hr).1
        have HT6 : Hid (BoSt w w6 p (.slice (some ⟨bl, off, none⟩) n c) p (.slice (some ⟨bm, om, none⟩) n' c') 0 (.slice none 0 0)) := BoSt.turn HT5.out (B := G + 1) (by have := HG.out; omega) hg hrow
        have HS6 : Hid (SpBox w6 G p (.slice Ad nd cd)) := SBox.grownO' HS5.out hg (fun e => by have := hrow _ e; omega)
        have HO6 : Hid (OwnB w6 (G + 1) dv2 ((spOr l m).take k ++ [true])) := by rw [Hid, OwnB, booC_app]; exact ho
        have HB6 : Hid (Below w.heap.size w w6) := HB5.out.grown hg HB5.out.size (fun j hj => by have := hrow _ hj; have := HG.out; omega)
        clear ho hg hrow
        simp only [Act.put, List.setIfInBounds_toArray, List.set_cons_zero, List.set_cons_succ]
        (refine schT_take ?_ rfl ?_ ?_; rotate_left; (focus (intro u hu; go_simp <;> rfl)); simp only [Act.put, List.setIfInBounds_toArray, List.set_cons_zero, List.set_cons_succ])
        refine schT_nil ?_
        refine schT_last rfl rfl ?_
        refine wp_put1 22 (.tmp 49) (.tmp 48) rfl 1 dv2 rfl rfl (by obtain ⟨_, _, _, rfl, _, _, _⟩ := OwnB.boos HO6.out |>.form; rfl) boolsInfo1 _ HS6.out.c1 (HS6.out.frozen 1) ?_
        intro w7 hw7
        have hg7 : w6.grownBy w7 (some G) := by rw [hw7]; exact grown_set _ _ _ _
        have HT7 : Hid (BoSt w w7 p (.slice (some ⟨bl, off, none⟩) n c) p (.slice (some ⟨bm, om, none⟩) n' c') 0 (.slice none 0 0)) := BoSt.turn HT6.out (B := G) HG.out hg7 (fun r e => by cases e; exact Nat.le_refl _)
        have HS7 : Hid (SpBox w7 G p dv2) := by rw [hw7]; exact HS6.out.put1 _
        have HO7 : Hid (OwnB w7 (G + 1) dv2 ((spOr l m).take k ++ [true])) := World.ownsRow.kept HO6.out hg7 (.inr (fun e => by have := (World.ownsRow.lt HO6.out _ e).1; omega))
        have HB7 : Hid (Below w.heap.size w w7) := HB6.out.grown hg7 HB6.out.size (fun j e => by cases e; have := HG.out; omega)
        clear hw7 hg7
        go_wp2_with fail
        go_roundw
        all_goals first
          | exact ⟨k + 1, dv2, HLT.out, by push_cast; rfl, HT7.out, HS7.out, by (rw [or_snoc HQ.out.1 HQ.out.2]; exact HO7.out), HB7.out⟩
          | (show l.length - ((k : Int) + 1).toNat < l.length - (k : Int).toNat; have := HLT.out; omega)
      | false =>
        go_wp2_with fail
        refine wp_region_T (R := fun x y => Below (G + 1) x y) (by kernel_rfl) (fun _ => Below.refl _ _) (fun h k => h.trans k) (by kernel_rfl) 17 rfl (by kernel_rfl) (by kernel_rfl) (fun d v c a w h => by cases d <;> exact h)
          [(0, false), (1, false), (2, false), (3, false), (4, false), (5, false), (6, false), (7, false), (8, false), (9, false), (10, false), (11, false), (12, false), (13, false), (14, true), (15, true), (16, false)] rfl (by kernel_rfl) ?_
        simp only [sel, List.getElem?_toArray, List.getElem?_cons_succ, List.getElem?_cons_zero]
        rw [HWD.out]
        (refine schT_take ?_ rfl ?_ ?_; rotate_left; (focus (intro u hu; go_simp <;> rfl)); simp only [Act.put, List.setIfInBounds_toArray, List.set_cons_zero, List.set_cons_succ])
        (refine schT_take ?_ rfl ?_ ?_; rotate_left; (focus (intro u hu; have c1 := (hu.cell (p := ⟨G, 1, none⟩) (Nat.lt_succ_self G)).trans CG.out; clear hu; go_simp <;> rfl)); simp only [Act.put, List.setIfInBounds_toArray, List.set_cons_zero, List.set_cons_succ])
        (refine schT_take ?_ rfl ?_ ?_; rotate_left; (focus (intro u hu; go_simp <;> rfl)); simp only [Act.put, List.setIfInBounds_toArray, List.set_cons_zero, List.set_cons_succ])
        (refine schT_take ?_ rfl ?_ ?_; rotate_left; (focus (intro u hu; have c1 := (hu.cell (p := ⟨w.heap.size, 1, none⟩) HGA.out).trans CA.out; clear hu; go_simp <;> rfl)); simp only [Act.put, List.setIfInBounds_toArray, List.set_cons_zero, List.set_cons_succ])
        iterate 2 (refine schT_take ?_ rfl ?_ ?_; rotate_left; (focus (intro u hu; go_simp <;> rfl)); simp only [Act.put, List.setIfInBounds_toArray, List.set_cons_zero, List.set_cons_succ])
        (refine schT_take ?_ rfl ?_ ?_; rotate_left; (focus (intro u hu; have c1 := (hu.cell (p := ⟨bl, off + k, none⟩) HGL.out).trans CL.out; clear hu; go_simp <;> rfl)); simp only [Act.put, List.setIfInBounds_toArray, List.set_cons_zero, List.set_cons_succ])
        iterate 2 (refine schT_take ?_ rfl ?_ ?_; rotate_left; (focus (intro u hu; go_simp <;> rfl)); simp only [Act.put, List.setIfInBounds_toArray, List.set_cons_zero, List.set_cons_succ])
        (refine schT_take ?_ rfl ?_ ?_; rotate_left; (focus (intro u hu; have c1 := (hu.cell (p := ⟨w.heap.size + 1, 1, none⟩) HGB.out).trans CB.out; clear hu; go_simp <;> rfl)); simp only [Act.put, List.setIfInBounds_toArray, List.set_cons_zero, List.set_cons_succ])
        iterate 2 (refine schT_take ?_ rfl ?_ ?_; rotate_left; (focus (intro u hu; go_simp <;> rfl)); simp only [Act.put, List.setIfInBounds_toArray, List.set_cons_zero, List.set_cons_succ])
        (refine schT_take ?_ rfl ?_ ?_; rotate_left; (focus (intro u hu; have c1 := (hu.cell (p := ⟨bm, om + k, none⟩) HGM.out).trans CM.out; clear hu; go_simp <;> rfl)); simp only [Act.put, List.setIfInBounds_toArray, List.set_cons_zero, List.set_cons_succ])
        (refine schT_take ?_ rfl ?_ ?_; rotate_left; (focus (intro u hu; go_simp <;> rfl)); simp only [Act.put, List.setIfInBounds_toArray, List.set_cons_zero, List.set_cons_succ])
        refine schT_call rfl ?_
        intro K hK
        go_simp
        refine hK _ _ ((below_new wd _).mono HGW.out) ?_
        clear hK K
        obtain ⟨w5, hw5⟩ : ∃ u, wd.alloc (.cells #[.bool mb] 4) = u := ⟨_, rfl⟩
        have hb5 : Below wd.heap.size wd w5 := hw5 ▸ below_new _ _
        have HRW : Hid (Rowz w5 (.slice (some ⟨wd.heap.size, 0, none⟩) 1 1) (booC [mb])) := hw5 ▸ Rowz.lit wd [.bool mb] 4 (by simp [maxLen])
        have HT5 : Hid (BoSt w w5 p (.slice (some ⟨bl, off, none⟩) n c) p (.slice (some ⟨bm, om, none⟩) n' c') 0 (.slice none 0 0)) := HTD.out.below hb5
        have HS5 : Hid (SpBox w5 G p (.slice Ad nd cd)) := HSD.out.below hb5
        have HO5 : Hid (OwnB w5 (G + 1) (.slice Ad nd cd) ((spOr l m).take k)) := OwnV.keep HOD.out hb5
        have HB5 : Hid (Below w.heap.size w w5) := HBD.out.trans (hb5.mono HBD.out.size)
        rw [hw5]
        clear hw5 hb5
        try simp only [Act.put, List.setIfInBounds_toArray, List.set_cons_zero, List.set_cons_succ]
        refine schT_call rfl ?_
        intro K hK
        obtain ⟨i0, hi0, hz0, hz1, hz2⟩ := HI0.out
        refine wp_appV (.tmp 34) (.tmp 47) _ rfl (G + 1) 4 1 i0 _ Try.underlying22 hi0 hz0 hz1 hz2 rfl _ (booC ((spOr l m).take k)) rfl HO5.out _ (booC [mb]) rfl HRW.out (booC_one _) (by have := HTK.out; simp only [booC_len, List.length_cons, List.length_nil]; omega) (by have := HTK.out; simp only [booC_len, List.length_cons, List.length_nil, maxLen]; omega) HS5.out.lt ?_
        intro dv2 w6 ho hg hat
        refine hK _ _ ((Below.refl _ _).grown hg HS5.out.lt (fun j hj => (World.ownsRow.lt HO5.out _ hj).1)) ?_
        clear hK K hat hi0 hz0 hz1 hz2 i0
        have hrow : ∀ r, (Value.slice Ad nd cd).ownBlock = some r → G + 1 ≤ r := fun r hr => (World.ownsRow.lt HO5.out _ hr).1
        have HT6 : Hid (BoSt w w6 p (.slice (some ⟨bl, off, none⟩) n c) p (.slice (some ⟨bm, om, none⟩) n' c') 0 (.slice none 0 0)) := BoSt.turn HT5.out (B := G + 1) (by have := HG.out; omega) hg hrow
        have HS6 : Hid (SpBox w6 G p (.slice Ad nd cd)) := SBox.grownO' HS5.out hg (fun e => by have := hrow _ e; omega)
        have HO6 : Hid (OwnB w6 (G + 1) dv2 ((spOr l m).take k ++ [mb])) := by rw [Hid, OwnB, booC_app]; exact ho
        have HB6 : Hid (Below w.heap.size w w6) := HB5.out.grown hg HB5.out.size (fun j hj => by have := hrow _ hj; have := HG.out; omega)
        clear ho hg hrow
        simp only [Act.put, List.setIfInBounds_toArray, List.set_cons_zero, List.set_cons_succ]
        (refine schT_take ?_ rfl ?_ ?_; rotate_left; (focus (intro u hu; go_simp <;> rfl)); simp only [Act.put, List.setIfInBounds_toArray, List.set_cons_zero, List.set_cons_succ])
        refine schT_nil ?_
        refine schT_last rfl rfl ?_
        refine wp_put1 22 (.tmp 49) (.tmp 48) rfl 1 dv2 rfl rfl (by obtain ⟨_, _, _, rfl, _, _, _⟩ := OwnB.boos HO6.out |>.form; rfl) boolsInfo1 _ HS6.out.c1 (HS6.out.frozen 1) ?_
        intro w7 hw7
        have hg7 : w6.grownBy w7 (some G) := by rw [hw7]; exact grown_set _ _ _ _
        have HT7 : Hid (BoSt w w7 p (.slice (some ⟨bl, off, none⟩) n c) p (.slice (some ⟨bm, om, none⟩) n' c') 0 (.slice none 0 0)) := BoSt.turn HT6.out (B := G) HG.out hg7 (fun r e => by cases e; exact Nat.le_refl _)
        have HS7 : Hid (SpBox w7 G p dv2) := by rw [hw7]; exact HS6.out.put1 _
        have HO7 : Hid (OwnB w7 (G + 1) dv2 ((spOr l m).take k ++ [mb])) := World.ownsRow.kept HO6.out hg7 (.inr (fun e => by have := (World.ownsRow.lt HO6.out _ e).1; omega))
        have HB7 : Hid (Below w.heap.size w w7) := HB6.out.grown hg7 HB6.out.size (fun j e => by cases e; have := HG.out; omega)
        clear hw7 hg7
        go_wp2_with fail
        go_roundw
        all_goals first
          | exact ⟨k + 1, dv2, HLT.out, by push_cast; rfl, HT7.out, HS7.out, by (rw [or_snoc HQ.out.1 HQ.out.2]; exact HO7.out), HB7.out⟩
          | (show l.length - ((k : Int) + 1).toNat < l.length - (k : Int).toNat; have := HLT.out; omega)
    · have hkp : ¬ (k : Int) < p := by have := HLP.out; omega
      have hke : k = l.length := by omega
      have HF : Hid (OwnB wr (G + 1) (.slice Ad nd cd) (spOr l m)) := by
        have := HOR.out
        rw [List.take_of_length_le (by unfold spOr; rw [List.length_zipWith]; omega)] at this
        exact this
      clear hke
      go_wp2_with (first
        | (refine wpList_loadS HSR.out Try.underlying24 spInfo rfl _ rfl rfl ?_)
        | (refine wpList_storeS HTR.out.2.2 spInfo rfl _ _ rfl rfl (ds := [.int .i64 p, .slice Ad nd cd]) rfl rfl (one_sp _ _ _ _) ?_; intro w9 hR9 hg9 hz9))
      refine ret_s2 hR9 Try.underlying24 spInfo rfl rfl rfl _ rfl ?_
      exact ⟨_, rfl, OwnV.lower (World.ownsRow.kept HF.out hg9 (.inr (fun e => by have := (World.ownsRow.lt HF.out _ e).1; have := HG.out; omega))) (by have := HG.out; omega), HBR.out.grown hg9 HBR.out.size (fun k e => by cases e; omega)⟩
theorem r8Both_any (w : World) (p q : Int) (v x : Value) (l m : List Bool) (hv : Boos w v l) (hx : Boos w x m) (hlen : l.length ≤ 70368744177664) (hlenm : m.length ≤ 70368744177664) :
    Calls Try.prog 22 #[.agg #[.int .i64 p, v], .agg #[.int .i64 q, x]] w (SpOut w (spBoth p l q m)) := by
  unfold spBoth
  by_cases h : ¬ spOk p l ∨ ¬ spOk q m ∨ p ≠ q
  · rw [if_pos h]
    exact r8Both_not w p q v x l m hv hx hlen hlenm h
  · rw [if_neg h]
    have h1 : spOk p l := Classical.byContradiction fun h' => h (.inl h')
    have h2 : spOk q m := Classical.byContradiction fun h' => h (.inr (.inl h'))
    have h3 : p = q := Classical.byContradiction fun h' => h (.inr (.inr h'))
    subst h3
    exact r8Both_ok w p v x l m hv hx h1 h2
end Go.Proofs.Ytncjobeahpjnpaa
