/-
  The document's pages (tallymanref05): Read, Kind by their contracts. Conditions: none.
-/
import Derived.Test.YtagchbpofoidmaaDoorPgK
namespace Go.Proofs.YtagchbpofoidmaaDoor
open Go.RowKit Go.Maps
set_option maxRecDepth 100000

set_option maxHeartbeats 1000000 in
theorem r5read_len (w : World) (v : Value) (l : List UInt8) (hv : Byt w v l) (h : l.length ≠ 4096) : Calls Tryd.prog 23 #[v] w (ReadN w) := by
  have HX := Lib.hid (Box.new w 0 0 (.slice none 0 0))
  have HB := Lib.hid (below_new w (.cells (pageV 0 0 (.slice none 0 0)) 28))
  obtain ⟨A, m, c, rfl, N, hnc, hcm⟩ := hv.form
  have hn : ((m : Int) != 4096) = true := by have := N.out; simp only [bne, beq_eq_false_iff_ne, Bool.not_eq_true', ne_eq]; omega
  clear hv h
  go_enter Tryd.func23, Tryd.ntmps23
  go_wp2_with fail
  unfold pageV at HX HB
  generalize w.alloc (.cells #[.int .i64 0, .int .u32 0, .slice none 0 0] 28) = w0 at *
  obtain ⟨d0, d1, d2⟩ := Box.cells HX.out
  refine bodyPost_ret (v := .tuple #[.agg (pageV 0 0 (.slice none 0 0)), .int .i64 4]) (by simp [results, Tryd.results23, go_sem, pageV, d0, d1, d2]) rfl ?_
  exact ⟨rfl, HB.out⟩
def RdPost (w : World) (l : List UInt8) (x nw : Nat) (e : Ending) (w' : World) : Prop :=
  (okB l ∧ ∃ v, e = .returned (.tuple #[.agg (pageV (x : Int) (nw : Int) v), .int .i64 0]) ∧ Own w' w.heap.size 5 v (l.drop 16) ∧ Below w.heap.size w w') ∨ (¬ okB l ∧ ReadN w e w')
set_option maxRecDepth 100000 in
set_option maxHeartbeats 4000000 in
theorem r5read_full (w : World) (v : Value) (l : List UInt8) (x nw : Nat) (hx3 : (l.getD 3 0).toNat = x) (hnw3 : numW l = nw) (hv : Byt w v l) (hl : l.length = 4096) : Calls Tryd.prog 23 #[v] w (RdPost w l x nw) := by
  have HOKI : Hid (okB l ↔ l.length = 4096 ∧ (1 ≤ (l.getD 3 0).toNat ∧ (l.getD 3 0).toNat ≤ 7) ∧ pageB (l.getD 3 0).toNat (numW l) (l.drop 16) = l) := okB_iff l
  have HNW := Lib.hid (numW_lt l)
  have HX256 : Hid ((l.getD 3 0).toNat < 256) := UInt8.toNat_lt _
  have HWN : Hid (wordN ((l.drop 4).take 4) = numW l) := rfl
  have HX := Lib.hid (Box.new w 0 0 (.slice none 0 0))
  have HB := Lib.hid (below_new w (.cells (pageV 0 0 (.slice none 0 0)) 28))
  obtain ⟨A, m, c, rfl, N, hnc, hcm⟩ := hv.form
  obtain rfl : m = 4096 := N.out.trans hl
  obtain ⟨A1, n1, c1, r1, b1, N1, _, _⟩ := hv.midrun 4 8 (by omega) (by omega)
  have r1' : ∀ W, (Instr.slice 22 (.slice A 4096 c) (some (.int .i64 4)) (some (.int .i64 8)) none).run Tryd.prog W = .ok (.slice A1 n1 c1) W := r1
  obtain ⟨A2, n2, c2, r2, b2, N2, _, _⟩ := hv.cutrun 22 elemByte sizeByte 16 (by omega) .i64
  have r2' : ∀ W, (Instr.slice 22 (.slice A 4096 c) (some (.int .i64 16)) none none).run Tryd.prog W = .ok (.slice A2 n2 c2) W := r2
  obtain ⟨b, off, rfl, hb, hc⟩ := hv.at (k := 3) (by omega)
  have hcell := hc 3 (by omega)
  have hk3 : l[3]'(by omega) = l.getD 3 0 := (getDb (by omega)).symm
  rw [hk3] at hcell
  rw [hx3] at HOKI HX256 hcell
  rw [hnw3] at HOKI HNW HWN
  have HCL := Lib.hid hcell
  have HBL := Lib.hid hb
  have HV := Lib.hid hv
  have B1 : Hid (Byt w (.slice A1 n1 c1) ((l.drop 4).take 4)) := b1
  have B2 := Lib.hid b2
  have HL4 : Hid (((l.drop 4).take 4).length = 4) := by rw [Hid, List.length_take, List.length_drop]; omega
  have HLL := Lib.hid hl
  clear hv r1 r2 b1 b2 hc hcell hb hk3 N hx3 hnw3
  go_enter Tryd.func23, Tryd.ntmps23
  go_wp2_with fail
  have HW0 : Hid (w.alloc (.cells (pageV 0 0 (.slice none 0 0)) 28) = w.alloc (.cells (pageV 0 0 (.slice none 0 0)) 28)) := rfl
  refine (rnew_any _ _ _ (B1.out.alloc _) (by have := HL4.out; omega)).mono ?_
  rintro e w1 ⟨g, rfl, hg, hr1, hb1⟩
  have HX1 := Lib.hid (HX.out.below hb1)
  have HB1 := Lib.hid (HB.out.trans (hb1.mono HB.out.size))
  have HR1 := Lib.hid hr1
  have HG : Hid (w.heap.size ≤ g) := by have := HB.out.size; rw [Hid]; simp at hg; omega
  clear hg hr1 hb1
  go_wp2_with fail
  refine wp_region_any (by kernel_rfl) ?_
  refine take_plain 0 15 ?_ rfl rfl (by kernel_rfl) (by kernel_rfl) (by kernel_rfl) (fun _ _ _ h => h) rfl ?_ ?_
  rotate_left
  · intro u; go_simp <;> rfl
  simp only [Act.put, List.setIfInBounds_toArray, List.set_cons_zero, List.set_cons_succ]
  refine take_plain 1 16 ?_ rfl rfl (by kernel_rfl) (by kernel_rfl) (by kernel_rfl) (fun _ _ _ h => h) rfl ?_ ?_
  rotate_left
  · intro u; go_simp <;> rfl
  simp only [Act.put, List.setIfInBounds_toArray, List.set_cons_zero, List.set_cons_succ]
  refine take_plain 4 19 ?_ rfl rfl (by kernel_rfl) (by kernel_rfl) (by kernel_rfl) (fun _ _ _ h => h) rfl ?_ ?_
  rotate_left
  · intro u; go_simp <;> rfl
  simp only [Act.put, List.setIfInBounds_toArray, List.set_cons_zero, List.set_cons_succ]
  refine take_plain 8 23 ?_ rfl rfl (by kernel_rfl) (by kernel_rfl) (by kernel_rfl) (fun _ _ _ h => h) rfl ?_ ?_
  rotate_left
  · intro u; go_simp <;> rfl
  simp only [Act.put, List.setIfInBounds_toArray, List.set_cons_zero, List.set_cons_succ]
  refine take_plain 9 24 ?_ rfl rfl (by kernel_rfl) (by kernel_rfl) (by kernel_rfl) (fun _ _ _ h => h) rfl ?_ ?_
  rotate_left
  · intro u; go_simp <;> rfl
  simp only [Act.put, List.setIfInBounds_toArray, List.set_cons_zero, List.set_cons_succ]
  refine any_lst (L' := lst4 false false false false false false false false false) (by kernel_rfl) ?_
  refine reg4 (w := w) (p := w.heap.size) (g := g) (x := x) (nw := nw) (b := b) (off := off + 3) (l := l) (vs := .slice A2 n2 c2)
    (f := fun t5 t17 t18 t20 t21 t22 t25 t26 => ⟨#[.slice (some ⟨b, off, none⟩) 4096 c, undef, .pointer (some ⟨w.heap.size, 0, none⟩), .int .i64 0, .pointer (some ⟨g, 0, none⟩), t5, undef, undef, .slice (some ⟨b, off, none⟩) 4096 c, .int .i64 4096, .bool false, undef, .slice (some ⟨b, off, none⟩) 4096 c, .slice A1 n1 c1, .pointer (some ⟨g, 0, none⟩), .slice (some ⟨b, off, none⟩) 4096 c, .pointer (some ⟨b, off + 3, none⟩), t17, t18, .pointer (some ⟨g, 0, none⟩), t20, t21, t22, .slice (some ⟨b, off, none⟩) 4096 c, .slice A2 n2 c2, t25, t26, undef, undef, undef, undef, undef, undef, undef, undef, undef, undef, undef, undef, undef, undef, undef, undef], []⟩)
    ⟨_, rfl, rfl, rfl, rfl⟩ ⟨_, rfl, rfl, rfl, rfl⟩ ⟨_, rfl, rfl, rfl, rfl⟩ ⟨_, rfl, rfl, rfl, rfl⟩ ⟨_, rfl, rfl, rfl, rfl⟩ ⟨_, rfl, rfl, rfl, rfl⟩ ⟨_, rfl, rfl, rfl, rfl⟩ ⟨_, rfl, rfl, rfl, rfl⟩ ⟨_, rfl, rfl, rfl, rfl⟩
    (fun _ _ _ _ _ _ _ _ _ => rfl) (fun _ _ _ _ _ _ _ _ _ => rfl) (fun _ _ _ _ _ _ _ _ _ => rfl) (fun _ _ _ _ _ _ _ _ _ => rfl) (fun _ _ _ _ _ _ _ _ _ => rfl) (fun _ _ _ _ _ _ _ _ _ => rfl) (fun _ _ _ _ _ _ _ _ _ => rfl) (fun _ _ _ _ _ _ _ _ _ => rfl)
    (fun _ _ _ _ _ _ _ _ => rfl) (fun _ _ _ _ _ _ _ _ => rfl) (fun _ _ _ _ _ _ _ _ => rfl) (fun _ _ _ _ _ _ _ _ => rfl) (fun _ _ _ _ _ _ _ _ => rfl) (fun _ _ _ _ _ _ _ _ => rfl) (fun _ _ _ _ _ _ _ _ => rfl) (fun _ _ _ _ _ _ _ _ => rfl)
    (fun _ _ _ _ _ _ _ _ => rfl) (fun _ _ _ _ _ _ _ _ => rfl) (fun _ _ _ _ _ _ _ _ => rfl)
    (fun u h => (h.cell (p := ⟨b, off + 3, none⟩) HBL.out).trans HCL.out) (fun u h => B2.out.below h) HX256.out HNW.out HWN.out HL4.out (by rw [List.length_drop]; have := HLL.out; omega) HG.out ?_ (by kernel_rfl) ?_ _ _ _ _ _ _ _ _ _
    ⟨HB1.out.drew, HX1.out, fun _ => HR1.out.below (Below.refl _ _).drew, nofun, nofun, nofun, nofun, nofun, nofun, nofun, nofun⟩
  · rintro d2 d3 d5 d6 d7 d10 d11 d12 ⟨v1, v2, v3, v4⟩
    cases d11
    · cases d10
      · cases d6
        · cases d3
          · clear v1 v2 v3 v4
            cases d2 <;> cases d5 <;> cases d7 <;> cases d12 <;> kernel_rfl
          · obtain rfl := v1 rfl
            clear v1 v2 v3 v4
            cases d5 <;> cases d7 <;> cases d12 <;> kernel_rfl
        · obtain rfl := v2 rfl
          cases d3
          · clear v1 v2 v3 v4
            cases d2 <;> cases d7 <;> cases d12 <;> kernel_rfl
          · obtain rfl := v1 rfl
            clear v1 v2 v3 v4
            cases d7 <;> cases d12 <;> kernel_rfl
      · obtain ⟨rfl, rfl⟩ := v3 rfl
        cases d3
        · clear v1 v2 v3 v4
          cases d2 <;> cases d6 <;> cases d12 <;> kernel_rfl
        · obtain rfl := v1 rfl
          clear v1 v2 v3 v4
          cases d6 <;> cases d12 <;> kernel_rfl
    · obtain ⟨rfl, rfl, rfl⟩ := v4 rfl
      obtain ⟨rfl, rfl⟩ := v3 rfl
      obtain rfl := v1 rfl
      clear v1 v2 v3 v4
      cases d12 <;> kernel_rfl
  · intro t5 t17 t18 t20 t21 t22 t25 t26 u q e5 hown hbox hq1 hq2 hboxp hbel
    subst e5
    have HOW := Lib.hid hown
    have HBX := Lib.hid hbox
    have HBP := Lib.hid hboxp
    have HBE := Lib.hid hbel
    have HQ2 := Lib.hid hq2
    obtain ⟨A3, n3, c3, rfl, N3, hnc3, hcm3⟩ := hown.byt.form
    obtain ⟨d0, d1, d2⟩ := hbox.cells
    have HL16 : Hid ((l.drop 16).length ≤ 4080) := by rw [Hid, List.length_drop]; have := HLL.out; omega
    clear hown hbox hboxp hbel hq1 hq2
    go_wp2_with fail
    clear d0 d1 d2
    by_cases hk : 1 ≤ x ∧ x ≤ 7
    · refine (r5bytes_ok u x nw _ _ HOW.out.byt hk.1 hk.2 HL16.out HNW.out).mono ?_
      rintro e w6 ⟨v6, rfl, hown6, hb6⟩
      have HB6 := Lib.hid (HBE.out.trans (hb6.mono HBE.out.size))
      have HX6 := Lib.hid (HBX.out.below hb6)
      have HP6 := Lib.hid (HBP.out.below hb6)
      have HO6 := Lib.hid (Own.keep HOW.out hb6)
      have T1 := text_of hown6.byt
      have T2 := text_of (HV.out.below HB6.out)
      have E := bytes_eq (pageB x nw (l.drop 16)) l
      obtain ⟨A6, n6, c6, rfl, N6, hnc6, hcm6⟩ := hown6.byt.form
      have HOK : Hid (okB l ↔ pageB x nw (l.drop 16) = l) := ⟨fun h => (HOKI.out.1 h).2.2, fun h => HOKI.out.2 ⟨HLL.out, hk, h⟩⟩
      generalize pageB x nw (l.drop 16) = lp at *
      obtain ⟨d0, d1, d2⟩ := HX6.out.cells
      obtain ⟨p0, p1, p2⟩ := HP6.out.cells
      have f0 := HP6.out.frozen 0
      have f1 := HP6.out.frozen 1
      have f2 := HP6.out.frozen 2
      clear hown6 hb6
      by_cases hE : lp = l
      · have hok : okB l := HOK.out.2 hE
        rw [decide_eq_true hE] at E
        clear hE
        generalize (⟨lp.toArray⟩ : ByteArray) = sp at *
        generalize (⟨l.toArray⟩ : ByteArray) = sl at *
        go_wp2_with fail
        have HX9 := Lib.hid (HP6.out.set x nw (.slice A3 n3 c3))
        have HB9 := Lib.hid (bel_set3 HB6.out (Nat.le_refl _) (.int .i64 x) (.int .u32 nw) (.slice A3 n3 c3))
        have HO9 := Lib.hid (Own.set3 HP6.out (.int .i64 x) (.int .u32 nw) (.slice A3 n3 c3) HO6.out)
        generalize ((w6.setCell ⟨w.heap.size, 0, none⟩ (.int .i64 x)).setCell ⟨w.heap.size, 1, none⟩ (.int .u32 nw)).setCell ⟨w.heap.size, 2, none⟩ (.slice A3 n3 c3) = w9 at *
        clear d0 d1 d2
        obtain ⟨d0, d1, d2⟩ := HX9.out.cells
        refine bodyPost_ret (v := .tuple #[.agg (pageV x nw (.slice A3 n3 c3)), .int .i64 0]) (by simp [results, Tryd.results23, go_sem, pageV, d0, d1, d2]) rfl ?_
        exact .inl ⟨hok, _, rfl, HO9.out, HB9.out⟩
      · have hok : ¬ okB l := fun h => hE (HOK.out.1 h)
        rw [decide_eq_false hE] at E
        clear hE
        generalize (⟨lp.toArray⟩ : ByteArray) = sp at *
        generalize (⟨l.toArray⟩ : ByteArray) = sl at *
        go_wp2_with fail
        have HX9 := Lib.hid (HP6.out.set 0 0 (.slice none 0 0))
        have HB9 := Lib.hid (bel_set3 HB6.out (Nat.le_refl _) (.int .i64 0) (.int .u32 0) (.slice none 0 0))
        generalize ((w6.setCell ⟨w.heap.size, 0, none⟩ (.int .i64 0)).setCell ⟨w.heap.size, 1, none⟩ (.int .u32 0)).setCell ⟨w.heap.size, 2, none⟩ (.slice none 0 0) = w9 at *
        clear d0 d1 d2
        obtain ⟨d0, d1, d2⟩ := HX9.out.cells
        refine bodyPost_ret (v := .tuple #[.agg (pageV 0 0 (.slice none 0 0)), .int .i64 4]) (by simp [results, Tryd.results23, go_sem, pageV, d0, d1, d2]) rfl ?_
        exact .inr ⟨hok, rfl, HB9.out⟩
    · have hok : ¬ okB l := fun h => hk (HOKI.out.1 h).2.1
      refine (r5bytes_bad u x nw _ _ HOW.out.byt (fun h => hk ⟨by omega, by omega⟩)).mono ?_
      rintro e w6 ⟨rfl, hb6⟩
      have HB6 := Lib.hid (HBE.out.trans (hb6.mono HBE.out.size))
      have HP6 := Lib.hid (HBP.out.below hb6)
      obtain ⟨p0, p1, p2⟩ := HP6.out.cells
      have f0 := HP6.out.frozen 0
      have f1 := HP6.out.frozen 1
      have f2 := HP6.out.frozen 2
      clear hb6
      go_wp2_with fail
      have HX9 := Lib.hid (HP6.out.set 0 0 (.slice none 0 0))
      have HB9 := Lib.hid (bel_set3 HB6.out (Nat.le_refl _) (.int .i64 0) (.int .u32 0) (.slice none 0 0))
      generalize ((w6.setCell ⟨w.heap.size, 0, none⟩ (.int .i64 0)).setCell ⟨w.heap.size, 1, none⟩ (.int .u32 0)).setCell ⟨w.heap.size, 2, none⟩ (.slice none 0 0) = w9 at *
      obtain ⟨d0, d1, d2⟩ := HX9.out.cells
      refine bodyPost_ret (v := .tuple #[.agg (pageV 0 0 (.slice none 0 0)), .int .i64 4]) (by simp [results, Tryd.results23, go_sem, pageV, d0, d1, d2]) rfl ?_
      exact .inr ⟨hok, rfl, HB9.out⟩
theorem r5read_ok (w : World) (v : Value) (l : List UInt8) (hv : Byt w v l) (h : okB l) : Calls Tryd.prog 23 #[v] w (ReadE w l) := by
  refine (r5read_full w v l _ _ rfl rfl hv h.1.1).mono ?_
  rintro e w' (⟨_, h'⟩ | ⟨h', _⟩)
  · exact h'
  · exact absurd h h'
theorem r5read_bad (w : World) (v : Value) (l : List UInt8) (hv : Byt w v l) (h : ¬ okB l) : Calls Tryd.prog 23 #[v] w (ReadN w) := by
  by_cases hl : l.length = 4096
  · refine (r5read_full w v l _ _ rfl rfl hv hl).mono ?_
    rintro e w' (⟨h', _⟩ | ⟨_, h'⟩)
    · exact absurd h' h
    · exact h'
  · exact r5read_len w v l hv hl
set_option maxHeartbeats 1000000 in
theorem r5kind_any (w : World) (v : Value) (l : List UInt8) (hv : Byt w v l) : Calls Tryd.prog 20 #[v] w (IntB w (kindB l)) := by
  have HV := Lib.hid hv
  clear hv
  by_cases h : okB l
  · have HK : Hid (kindB l = (l.getD 3 0).toNat) := kindB_ok h
    have H := Lib.hid (r5read_ok w v l HV.out h)
    unfold ReadE at H
    generalize (l.getD 3 0).toNat = x at *
    generalize numW l = nw at *
    go_enter Tryd.func20, Tryd.ntmps20
    go_wp2_with fail
    refine H.out.mono ?_
    rintro e w1 ⟨v1, rfl, hown1, hb1⟩
    obtain ⟨A1, n1, c1, rfl, N1, hnc1, hcm1⟩ := hown1.byt.form
    clear hown1
    unfold pageV
    go_wp2_with fail
    go_ret
    rw [HK.out]
    exact ⟨rfl, hb1.alloc hb1.size _⟩
  · have HK : Hid (kindB l = 0) := (kindB_zero l).2 h
    go_enter Tryd.func20, Tryd.ntmps20
    go_wp2_with fail
    refine (r5read_bad w v l HV.out h).mono ?_
    rintro e w1 ⟨rfl, hb1⟩
    unfold pageV
    go_wp2_with fail
    go_ret
    rw [HK.out]
    exact ⟨rfl, hb1.alloc hb1.size _⟩
end Go.Proofs.YtagchbpofoidmaaDoor
