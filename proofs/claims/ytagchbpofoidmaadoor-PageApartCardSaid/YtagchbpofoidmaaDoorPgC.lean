/-
  Package page: sum, Kind by their contracts. Conditions: none.
-/
import Derived.Test.YtagchbpofoidmaaDoorPgB
import Derived.Test.YtagchbpofoidmaaDoorOct2
import Derived.Test.YtagchbpofoidmaaDoorParts
import Derived.Test.YtagchbpofoidmaaDoorOrd
namespace Go.Proofs.YtagchbpofoidmaaDoor
open Go.RowKit
set_option maxRecDepth 100000

theorem own_cell {w : World} {B g n c : Nat} {l : List UInt8} (h : Own w B 5 (.slice (some ⟨g, 0, none⟩) n c) l) {j : Nat} (hj : j < l.length) : w.cell? ⟨g, j, none⟩ = some (.int .u8 ((l.getD j 0).toNat : Int)) := by
  have := World.ownsRow.cells h (g := g) rfl j (.int .u8 (l[j].toNat : Int)) (by simp [byc, hj])
  rw [plainAdd, Nat.zero_add] at this
  rw [this, List.getD_eq_getElem?_getD, List.getElem?_eq_getElem hj]
  rfl
theorem own_set {w : World} {B g n c : Nat} {l : List UInt8} (h : Own w B 5 (.slice (some ⟨g, 0, none⟩) n c) l) (hl : l.length = n) (j : Nat) (x : UInt8) :
    Own (w.setCell ⟨g, j, none⟩ (.int .u8 (x.toNat : Int))) B 5 (.slice (some ⟨g, 0, none⟩) n c) (l.set j x) := by
  unfold Own at h ⊢
  rw [List.length_set]
  rw [hl] at h ⊢
  have := World.ownsRow.stored h j (.int .u8 (x.toNat : Int))
  have e : byc (l.set j x) = (byc l).set j (.int .u8 (x.toNat : Int)) := by simp [byc, List.map_set]
  rw [e]
  exact this.1
/-- 'uint64(x)' of 32 bits. -/
theorem conv64 (u : World) (sm : Nat) (h : sm < 4294967296) (o : Oper) (x : Operand) {a : Act} (ho : o.op = .convert 26 61 x) (hx : a.eval x = .int .u32 (sm : Int)) : (execOp a.eval o).run Tryd.prog u = .ok (.value (.int .u64 (sm : Int))) u := by
  unfold execOp
  rw [ho]
  generalize a.eval = ρ at *
  go_simp
  rw [IntKind.wrap_u64]
  omega
/-- A row that was just laid. -/
theorem Rowz.litF (w : World) (vs : List Value) (t : TypeId) (fz : Nat × Nat) (hl : vs.length ≤ maxLen) : Rowz (w.alloc (.cells vs.toArray t fz)) (.slice (some ⟨w.heap.size, 0, none⟩) vs.length vs.length) vs := by
  refine ⟨_, _, rfl, Nat.le_refl _, hl, .inr ⟨w.heap.size, 0, rfl, by simp, fun j hj => ?_⟩⟩
  rw [cell_of_row _ _ _ _ _ _ (heap_alloc_new w _)]
  simp [hj]
theorem Byts.three {w : World} {a b c : Value} {l m n : List UInt8} (h1 : Byt w a l) (h2 : Byt w b m) (h3 : Byt w c n) : Byts w [a, b, c] [l, m, n] :=
  ((((Byts.nil w).snoc h1).snoc h2).snoc h3)
theorem made_zeros (n : Nat) : (madeCells (Value.cells (.int .u8 0)) (n * 1)).toList = byc (zsB n) := by
  rw [show (Value.cells (.int .u8 0)) = #[.int .u8 0] from rfl, toList_madeCells_one, Nat.mul_one]
  simp [byc, zsB]
theorem own_zeros {w : World} {B g n : Nat} (h : w.ownsRow B 5 1 (.slice (some ⟨g, 0, none⟩) n n) n (madeCells (Value.cells (.int .u8 0)) (n * 1)).toList) : Own w B 5 (.slice (some ⟨g, 0, none⟩) n n) (zsB n) := by
  rw [made_zeros] at h
  unfold Own
  rw [zsB_len]
  exact h
/-- 's[a:b]' with constant bounds. -/
theorem Byt.midrun {w : World} {A : Option Addr} {n c : Nat} {l : List UInt8} (h : Byt w (.slice A n c) l) (a b : Nat) (hab : a ≤ b) (hb : b ≤ n) :
    ∃ A1 n1 c1, (∀ W, (Instr.slice 22 (.slice A n c) (some (.int .i64 (a : Int))) (some (.int .i64 (b : Int))) none).run Tryd.prog W = .ok (.slice A1 n1 c1) W) ∧ Byt w (.slice A1 n1 c1) ((l.drop a).take (b - a)) ∧ Hid (n1 = b - a) ∧ n1 ≤ c1 ∧ c1 ≤ 9223372036854775807 := by
  have h1 := h.cut (k := a) (by omega)
  have h2 := h1.upto (k := b - a) (by omega)
  obtain ⟨A', c', hv, g1, g2, _⟩ := id h1
  injection hv with e1 e2 e3
  have hln : l.length = n ∧ n ≤ c := by obtain ⟨_, _, hv, h9, _⟩ := h; injection hv with _ e e9; subst e9; exact ⟨e.symm, by omega⟩
  refine ⟨_, b - a, _, fun W => ?_, h2, rfl, ?_, ?_⟩
  · rw [run_slice_lh W 22 _ n c elemByte .i64 .i64 _ _ (by omega) (by omega) (by omega), sizeByte]
    simp [Result.andThen, sliced]
  · rw [List.length_drop] at g1; omega
  · unfold maxLen at g2; omega

set_option maxRecDepth 100000 in
set_option maxHeartbeats 2000000 in
theorem pgsum_any (w : World) (v : Value) (l : List UInt8) (hv : Byt w v l) (hl : l.length = 4096) :
    Calls Tryd.prog 39 #[v] w (Made w (wordB 4 (sumB l))) := by
  obtain ⟨i0, hi0, hz0, hz1, hz2⟩ := info_parts uinfo
  obtain ⟨A, n, c, rfl, N, hnc, hcm⟩ := hv.form
  obtain rfl : n = 4096 := N.out.trans hl
  obtain ⟨A2, n2, c2, hcut, hby2, N2, _, _⟩ := hv.cutrun 22 elemByte sizeByte 16 (by omega) .i64
  have hcut' : ∀ W, (Instr.slice 22 (.slice A 4096 c) (some (.int .i64 16)) none none).run Tryd.prog W = .ok (.slice A2 n2 c2) W := hcut
  obtain ⟨A1, n1, c1, hupr, hup, N1, _, _⟩ := hv.uptorun 22 elemByte sizeByte 12 (by omega) .i64
  have hup' : ∀ W, (Instr.slice 22 (.slice A 4096 c) none (some (.int .i64 12)) none).run Tryd.prog W = .ok (.slice A1 n1 c1) W := hupr
  have HV := Lib.hid hv
  have HU0 := Lib.hid hup
  have HC0 := Lib.hid hby2
  have HLL := Lib.hid hl
  clear hv hcut hup hupr hby2 N
  go_enter Tryd.func39, Tryd.ntmps39
  go_wp2_with (at_make; refine wpList_make_full _ rfl _ _ 22 rfl w.heap.size 5 i0 _ 1 Tryd.underlying22 hi0 hz0 hz1 _ _ _ _ 4 rfl rfl rfl rfl (by rw [hz2]; omega) (by simp only [maxLen]; omega) (Nat.le_refl _) ?_; intro w1 hown1 hg1)
  have hb1 := below_none hg1
  have HO : Hid (Own w1.drew w.heap.size 5 (.slice (some ⟨w.heap.size, 0, none⟩) 4 4) (zsB 4)) := own_zeros hown1
  have HB : Hid (Below w.heap.size w w1.drew) := hb1.drew
  have HU : Hid (Byt w1.drew (.slice A1 n1 c1) (l.take 12)) := HU0.out.below hb1.drew
  have HC : Hid (Byt w1.drew (.slice A2 n2 c2) (l.drop 16)) := HC0.out.below hb1.drew
  clear hown1 hg1 hb1
  refine wp_region_R (R := fun x y => Below x.heap.size x y) (by kernel_rfl) (fun _ => Below.refl _ _) (fun h k => h.trans (k.mono h.size)) (by kernel_rfl) (fun d v c a w h => by cases d <;> exact h)
    [(0, false), (1, false), (2, false), (3, false), (4, false), (5, true), (6, true), (7, false), (8, true), (9, false)] rfl (by kernel_rfl) (by kernel_rfl) ?_
  simp only [sel, List.getElem?_toArray, List.getElem?_cons_succ, List.getElem?_cons_zero]
  generalize w1.drew = wd at *
  iterate 5 (refine sch_take ?_ rfl ?_ ?_; rotate_left; (focus (intro u hu; go_simp <;> rfl)); simp only [Act.put, List.setIfInBounds_toArray, List.set_cons_zero, List.set_cons_succ])
  refine sch_call rfl ?_
  intro K hK
  go_simp
  refine hK _ _ (below_new _ _) ?_
  clear hK K
  have hrow := Rowz.litF wd [.slice A1 n1 c1, .slice (some ⟨w.heap.size, 0, none⟩) 4 4, .slice A2 n2 c2] 22 (0, 0) (by simp [maxLen])
  have hbyt := Byts.three ((HU.out).alloc (.cells #[.slice A1 n1 c1, .slice (some ⟨w.heap.size, 0, none⟩) 4 4, .slice A2 n2 c2] 22)) (HO.out.byt.alloc _) (HC.out.alloc _)
  refine sch_call rfl ?_
  intro K hK
  go_simp
  have hcp := crcparts_any _ _ _ _ hrow hbyt (by
    intro x hx
    have hl := HLL.out
    simp at hx
    rcases hx with rfl | rfl | rfl
    · rw [List.length_take]; omega
    · rw [zsB_len]; omega
    · rw [List.length_drop]; omega)
  have hsum : sumC [l.take 12, zsB 4, l.drop 16].flatten = sumB l := by simp [sumB]
  rw [hsum] at hcp
  have HLT := Lib.hid (sumB_lt l)
  clear hrow hbyt hsum
  generalize sumB l = sm at *
  have hlt := HLT.out
  refine hcp.mono ?_
  clear hcp
  rintro e w2 ⟨rfl, hb2⟩
  go_wp2_with fail
  refine hK _ _ hb2 ?_
  clear hK K
  have HB2 := Lib.hid ((HB.out.trans ((below_new wd _).mono HB.out.size)).trans (hb2.mono (by have := HB.out.size; simp; omega)))
  clear hb2
  refine sch_take (.int .u64 (sm : Int)) rfl (fun u _ => conv64 u sm hlt _ _ rfl rfl) ?_
  simp only [Act.put, List.setIfInBounds_toArray, List.set_cons_zero, List.set_cons_succ]
  refine sch_call rfl ?_
  intro K hK
  go_simp
  refine (word_is _ _ [] sm 4 (Byt.nil _) (by omega) (by omega) (by simp)).mono ?_
  rintro e w3 ⟨v3, rfl, hown3, hb3⟩
  go_wp2_with fail
  refine hK _ _ hb3 ?_
  clear hK K
  have HO3 := Lib.hid hown3
  have HB3 := Lib.hid (HB2.out.trans (hb3.mono HB2.out.size))
  have HS3 := Lib.hid HB2.out.size
  clear hown3 hb3 hlt
  (refine sch_take ?_ rfl ?_ ?_; rotate_left; (focus (intro u hu; go_simp <;> rfl)); simp only [Act.put, List.setIfInBounds_toArray, List.set_cons_zero, List.set_cons_succ])
  refine sch_nil ?_
  go_wp2_with fail
  go_ret
  exact made_mk (HO3.out.lower (HS3.out)) HB3.out

theorem trim_zs {z : List UInt8} (h : z.length = 4) : (trimR z).length = 0 ↔ z = zsB 4 := by
  constructor
  · intro e
    have e' := List.eq_nil_of_length_eq_zero e
    have := trimR_is z
    rw [e', h] at this
    exact this
  · rintro rfl
    have := trimR_zeros [] 4
    rw [List.nil_append] at this
    show (trimR (List.replicate 4 0)).length = 0
    rw [this]; rfl
/-- What a call that tells a number, and may make memory, leaves. -/
def IntB (w : World) (n : Nat) (e : Ending) (w' : World) : Prop := e = .returned (.int .i64 (n : Int)) ∧ Below w.heap.size w w'
theorem kind_len (w : World) (v : Value) (l : List UInt8) (hv : Byt w v l) (hl : l.length ≠ 4096) : Calls Tryd.prog 19 #[v] w (IntB w (kindB l)) := by
  have HR : Hid (kindB l = 0) := (kindB_zero l).2 (fun h => hl h.1.1)
  obtain ⟨A, n, c, rfl, N, hnc, hcm⟩ := hv.form
  have hn : ((n : Int) != 4096) = true := by have := N.out; simp only [bne, beq_eq_false_iff_ne, Bool.not_eq_true', ne_eq]; omega
  clear hv hl
  go_enter Tryd.func19, Tryd.ntmps19
  go_wp2_with fail
  go_ret
  rw [HR.out]
  exact ⟨rfl, Below.refl _ _⟩
theorem kind_mark (w : World) (v : Value) (l : List UInt8) (hv : Byt w v l) (hl : l.length = 4096) (hm : l.take 3 ≠ [84, 77, 1]) : Calls Tryd.prog 19 #[v] w (IntB w (kindB l)) := by
  have HR : Hid (kindB l = 0) := (kindB_zero l).2 (fun h => hm h.1.2)
  obtain ⟨A, n, c, rfl, N, hnc, hcm⟩ := hv.form
  obtain rfl : n = 4096 := N.out.trans hl
  obtain ⟨A1, n1, c1, r1, b1, N1, _, _⟩ := hv.midrun 0 3 (by omega) (by omega)
  have r1' : ∀ W, (Instr.slice 22 (.slice A 4096 c) (some (.int .i64 0)) (some (.int .i64 3)) none).run Tryd.prog W = .ok (.slice A1 n1 c1) W := r1
  rw [List.drop_zero] at b1
  have T1 := text_of b1
  have E := bytes_lit (l.take 3) [84, 77, 1]
  rw [decide_eq_false hm] at E
  have e3 : (l.take (3 - 0)) = l.take 3 := rfl
  rw [e3] at T1
  generalize (⟨(l.take 3).toArray⟩ : ByteArray) = s1 at *
  clear hv hl hm r1 b1 e3
  go_enter Tryd.func19, Tryd.ntmps19
  go_wp2_with fail
  go_ret
  rw [HR.out]
  exact ⟨rfl, Below.refl _ _⟩

set_option maxRecDepth 100000 in
set_option maxHeartbeats 4000000 in
theorem kind_rest (w : World) (v : Value) (l : List UInt8) (hv : Byt w v l) (hl : l.length = 4096) (hm : l.take 3 = [84, 77, 1]) : Calls Tryd.prog 19 #[v] w (IntB w (kindB l)) := by
  obtain ⟨A, n, c, rfl, N, hnc, hcm⟩ := hv.form
  obtain rfl : n = 4096 := N.out.trans hl
  obtain ⟨A1, n1, c1, r1, b1, N1, _, _⟩ := hv.midrun 0 3 (by omega) (by omega)
  have r1' : ∀ W, (Instr.slice 22 (.slice A 4096 c) (some (.int .i64 0)) (some (.int .i64 3)) none).run Tryd.prog W = .ok (.slice A1 n1 c1) W := r1
  obtain ⟨A2, n2, c2, r2, b2, N2, _, _⟩ := hv.midrun 8 12 (by omega) (by omega)
  have r2' : ∀ W, (Instr.slice 22 (.slice A 4096 c) (some (.int .i64 8)) (some (.int .i64 12)) none).run Tryd.prog W = .ok (.slice A2 n2 c2) W := r2
  obtain ⟨A3, n3, c3, r3, b3, N3, _, _⟩ := hv.midrun 12 16 (by omega) (by omega)
  have r3' : ∀ W, (Instr.slice 22 (.slice A 4096 c) (some (.int .i64 12)) (some (.int .i64 16)) none).run Tryd.prog W = .ok (.slice A3 n3 c3) W := r3
  rw [List.drop_zero] at b1
  have T1 := text_of b1
  have E := bytes_lit (l.take 3) [84, 77, 1]
  rw [decide_eq_true hm] at E
  have e3 : (l.take (3 - 0)) = l.take 3 := rfl
  rw [e3] at T1
  generalize (⟨(l.take 3).toArray⟩ : ByteArray) = s1 at *
  obtain ⟨b, off, rfl, hb, hc⟩ := hv.at (k := 3) (by omega)
  have hcell := hc 3 (by omega)
  have hk3 : l[3]'(by omega) = l.getD 3 0 := (getDb (by omega)).symm
  rw [hk3] at hcell
  have B2 : Hid (Byt w (.slice A2 n2 c2) ((l.drop 8).take 4)) := b2
  have B3 : Hid (Byt w.drew (.slice A3 n3 c3) ((l.drop 12).take 4)) := b3
  have HV := Lib.hid hv
  have HVd : Hid (Byt w.drew _ l) := hv
  have HLL := Lib.hid hl
  have HM := Lib.hid hm
  have hx : (l.getD 3 0).toNat < 256 := UInt8.toNat_lt _
  have HKB : Hid (kindB l = if okB l then (l.getD 3 0).toNat else 0) := rfl
  have HOK : Hid (okB l ↔ (1 ≤ (l.getD 3 0).toNat ∧ (l.getD 3 0).toNat ≤ 7) ∧ (l.drop 8).take 4 = zsB 4 ∧ (l.drop 12).take 4 = wordB 4 (sumB l)) := ⟨fun h => h.2, fun h => ⟨⟨hl, hm⟩, h⟩⟩
  have HZ : Hid ((trimR ((l.drop 8).take 4)).length = 0 ↔ (l.drop 8).take 4 = zsB 4) := trim_zs (by rw [List.length_take, List.length_drop]; omega)
  generalize (l.getD 3 0).toNat = x at *
  clear hv hm r1 b1 e3 r2 r3 b2 b3 hc hb hk3 N
  go_enter Tryd.func19, Tryd.ntmps19
  go_wp2_with fail
  refine (trimmed_any w _ _ B2.out).mono ?_
  rintro e w1 ⟨v1, rfl, hb1, rfl⟩
  obtain ⟨A4, n4, c4, rfl, N4, hnc4, hcm4⟩ := hb1.form
  clear hb1
  by_cases hk : 1 ≤ x ∧ x ≤ 7
  · have HK : Hid (decide ((1 : Int) ≤ (x : Int) ∧ (x : Int) ≤ 7) = true) := by rw [Hid]; simp; omega
    by_cases hz : n4 = 0
    · subst hz
      have HZ2 : Hid ((l.drop 8).take 4 = zsB 4) := HZ.out.1 N4.out.symm
      go_wp2_with fail
      refine wp_region_R (R := fun x y => Below x.heap.size x y) (by kernel_rfl) (fun _ => Below.refl _ _) (fun h k => h.trans (k.mono h.size)) (by kernel_rfl) (fun d v c a w h => by cases d <;> exact h)
        [(0, false), (1, true), (2, false), (3, false), (4, false), (5, false), (6, false), (7, false), (8, false), (9, false), (10, false), (11, true), (12, true), (13, false), (14, false)] rfl (by kernel_rfl) (by kernel_rfl) ?_
      simp only [sel, List.getElem?_toArray, List.getElem?_cons_succ, List.getElem?_cons_zero]
      have HBX : Hid (Below w.heap.size w w.drew) := (Below.refl _ _).drew
      have HBS : Hid (w.heap.size ≤ w.drew.heap.size) := Nat.le_refl _
      generalize w.drew = wd at *
      (refine sch_take ?_ rfl ?_ ?_; rotate_left; (focus (intro u hu; go_simp <;> rfl)); simp only [Act.put, List.setIfInBounds_toArray, List.set_cons_zero, List.set_cons_succ])
      refine sch_call rfl ?_
      intro K hK
      go_simp
      refine (isKind_any _ _).mono ?_
      rintro e w2 ⟨rfl, rfl⟩; rw [HK.out]
      go_wp2_with fail
      refine hK _ _ (Below.refl _ _) ?_
      clear hK K
      iterate 9 (refine sch_take ?_ rfl ?_ ?_; rotate_left; (focus (intro u hu; go_simp <;> rfl)); simp only [Act.put, List.setIfInBounds_toArray, List.set_cons_zero, List.set_cons_succ])
      refine sch_call rfl ?_
      intro K hK
      go_simp
      refine (pgsum_any _ _ l HVd.out HLL.out).mono ?_
      rintro e w3 ⟨v3, rfl, hown3, hb3⟩
      go_wp2_with fail
      refine hK _ _ hb3 ?_
      clear hK K
      have HB3 := Lib.hid (HBX.out.trans (hb3.mono HBS.out))
      have H33 := Lib.hid (B3.out.below hb3)
      have HV3 := Lib.hid hown3.byt
      obtain ⟨A5, n5, c5, rfl, N5, hnc5, hcm5⟩ := hown3.byt.form
      clear hown3 hb3
      refine sch_call rfl ?_
      intro K hK
      go_simp
      refine (equal_any _ _ _ _ _ H33.out HV3.out).mono ?_
      rintro e w4 ⟨rfl, rfl⟩; obtain ⟨bq, HE⟩ : ∃ bq, Hid (decide ((l.drop 12).take 4 = wordB 4 (sumB l)) = bq) := ⟨_, rfl⟩; rw [HE.out]
      go_wp2_with fail
      refine hK _ _ (Below.refl _ _) ?_
      clear hK K
      iterate 2 (refine sch_take ?_ rfl ?_ ?_; rotate_left; (focus (intro u hu; go_simp <;> rfl)); simp only [Act.put, List.setIfInBounds_toArray, List.set_cons_zero, List.set_cons_succ])
      refine sch_nil ?_
      cases bq
      · have HR : Hid (kindB l = 0) := by
          rw [Hid, HKB.out, if_neg]
          intro h
          exact of_decide_eq_false HE.out (HOK.out.1 h).2.2
        go_wp2_with fail
        go_ret
        rw [HR.out]
        exact ⟨rfl, HB3.out⟩
      · have HR : Hid (kindB l = x) := by
          rw [Hid, HKB.out, if_pos]
          exact HOK.out.2 ⟨hk, HZ2.out, of_decide_eq_true HE.out⟩
        go_wp2_with fail
        go_ret
        rw [HR.out]
        exact ⟨rfl, HB3.out⟩
    · have hz' : ((n4 : Int) == 0) = false := by simp; exact hz
      have HR : Hid (kindB l = 0) := by
        rw [Hid, HKB.out, if_neg]
        intro h
        exact hz (N4.out.trans (HZ.out.2 (HOK.out.1 h).2.1))
      go_wp2_with fail
      refine wp_region_R (R := fun x y => Below x.heap.size x y) (by kernel_rfl) (fun _ => Below.refl _ _) (fun h k => h.trans (k.mono h.size)) (by kernel_rfl) (fun d v c a w h => by cases d <;> exact h)
        [(0, false), (1, true), (2, false), (3, false), (4, false), (5, false), (6, false), (7, false), (8, false), (9, false), (10, false), (11, true), (12, true), (13, false), (14, false)] rfl (by kernel_rfl) (by kernel_rfl) ?_
      simp only [sel, List.getElem?_toArray, List.getElem?_cons_succ, List.getElem?_cons_zero]
      have HBX : Hid (Below w.heap.size w w.drew) := (Below.refl _ _).drew
      have HBS : Hid (w.heap.size ≤ w.drew.heap.size) := Nat.le_refl _
      generalize w.drew = wd at *
      (refine sch_take ?_ rfl ?_ ?_; rotate_left; (focus (intro u hu; go_simp <;> rfl)); simp only [Act.put, List.setIfInBounds_toArray, List.set_cons_zero, List.set_cons_succ])
      refine sch_call rfl ?_
      intro K hK
      go_simp
      refine (isKind_any _ _).mono ?_
      rintro e w2 ⟨rfl, rfl⟩; rw [HK.out]
      go_wp2_with fail
      refine hK _ _ (Below.refl _ _) ?_
      clear hK K
      iterate 6 (refine sch_take ?_ rfl ?_ ?_; rotate_left; (focus (intro u hu; go_simp <;> rfl)); simp only [Act.put, List.setIfInBounds_toArray, List.set_cons_zero, List.set_cons_succ])
      refine sch_idle rfl ?_
      simp only [Act.put, List.setIfInBounds_toArray, List.set_cons_zero, List.set_cons_succ]
      refine sch_idle rfl ?_
      simp only [Act.put, List.setIfInBounds_toArray, List.set_cons_zero, List.set_cons_succ]
      refine sch_idle rfl ?_
      simp only [Act.put, List.setIfInBounds_toArray, List.set_cons_zero, List.set_cons_succ]
      refine sch_idleC rfl ?_
      simp only [Act.put, List.setIfInBounds_toArray, List.set_cons_zero, List.set_cons_succ]
      refine sch_idleC rfl ?_
      simp only [Act.put, List.setIfInBounds_toArray, List.set_cons_zero, List.set_cons_succ]
      refine sch_idle rfl ?_
      simp only [Act.put, List.setIfInBounds_toArray, List.set_cons_zero, List.set_cons_succ]
      (refine sch_take ?_ rfl ?_ ?_; rotate_left; (focus (intro u hu; go_simp <;> rfl)); simp only [Act.put, List.setIfInBounds_toArray, List.set_cons_zero, List.set_cons_succ])
      refine sch_nil ?_
      go_wp2_with fail
      go_ret
      rw [HR.out]
      exact ⟨rfl, HBX.out⟩
  · have HK : Hid (decide ((1 : Int) ≤ (x : Int) ∧ (x : Int) ≤ 7) = false) := by rw [Hid]; simp; omega
    have HR : Hid (kindB l = 0) := by
      rw [Hid, HKB.out, if_neg]
      intro h
      exact hk (HOK.out.1 h).1
    have hz' : ∃ bz, ((n4 : Int) == 0) = bz := ⟨_, rfl⟩
    obtain ⟨bz, hz'⟩ := hz'
    go_wp2_with fail
    refine wp_region_R (R := fun x y => Below x.heap.size x y) (by kernel_rfl) (fun _ => Below.refl _ _) (fun h k => h.trans (k.mono h.size)) (by kernel_rfl) (fun d v c a w h => by cases d <;> exact h)
      [(0, false), (1, true), (2, false), (3, false), (4, false), (5, false), (6, false), (7, false), (8, false), (9, false), (10, false), (11, true), (12, true), (13, false), (14, false)] rfl (by kernel_rfl) (by kernel_rfl) ?_
    simp only [sel, List.getElem?_toArray, List.getElem?_cons_succ, List.getElem?_cons_zero]
    have HBX : Hid (Below w.heap.size w w.drew) := (Below.refl _ _).drew
    have HBS : Hid (w.heap.size ≤ w.drew.heap.size) := Nat.le_refl _
    generalize w.drew = wd at *
    (refine sch_take ?_ rfl ?_ ?_; rotate_left; (focus (intro u hu; go_simp <;> rfl)); simp only [Act.put, List.setIfInBounds_toArray, List.set_cons_zero, List.set_cons_succ])
    refine sch_call rfl ?_
    intro K hK
    go_simp
    refine (isKind_any _ _).mono ?_
    rintro e w2 ⟨rfl, rfl⟩; rw [HK.out]
    go_wp2_with fail
    refine hK _ _ (Below.refl _ _) ?_
    clear hK K
    iterate 2 (refine sch_take ?_ rfl ?_ ?_; rotate_left; (focus (intro u hu; go_simp <;> rfl)); simp only [Act.put, List.setIfInBounds_toArray, List.set_cons_zero, List.set_cons_succ])
    refine sch_idle rfl ?_
    simp only [Act.put, List.setIfInBounds_toArray, List.set_cons_zero, List.set_cons_succ]
    refine sch_idle rfl ?_
    simp only [Act.put, List.setIfInBounds_toArray, List.set_cons_zero, List.set_cons_succ]
    iterate 2 (refine sch_take ?_ rfl ?_ ?_; rotate_left; (focus (intro u hu; go_simp <;> rfl)); simp only [Act.put, List.setIfInBounds_toArray, List.set_cons_zero, List.set_cons_succ])
    refine sch_idle rfl ?_
    simp only [Act.put, List.setIfInBounds_toArray, List.set_cons_zero, List.set_cons_succ]
    refine sch_idle rfl ?_
    simp only [Act.put, List.setIfInBounds_toArray, List.set_cons_zero, List.set_cons_succ]
    refine sch_idle rfl ?_
    simp only [Act.put, List.setIfInBounds_toArray, List.set_cons_zero, List.set_cons_succ]
    refine sch_idleC rfl ?_
    simp only [Act.put, List.setIfInBounds_toArray, List.set_cons_zero, List.set_cons_succ]
    refine sch_idleC rfl ?_
    simp only [Act.put, List.setIfInBounds_toArray, List.set_cons_zero, List.set_cons_succ]
    refine sch_idle rfl ?_
    simp only [Act.put, List.setIfInBounds_toArray, List.set_cons_zero, List.set_cons_succ]
    (refine sch_take ?_ rfl ?_ ?_; rotate_left; (focus (intro u hu; go_simp <;> rfl)); simp only [Act.put, List.setIfInBounds_toArray, List.set_cons_zero, List.set_cons_succ])
    refine sch_nil ?_
    go_wp2_with fail
    go_ret
    rw [HR.out]
    exact ⟨rfl, HBX.out⟩
theorem kind_any (w : World) (v : Value) (l : List UInt8) (hv : Byt w v l) : Calls Tryd.prog 19 #[v] w (IntB w (kindB l)) := by
  by_cases hl : l.length = 4096
  · by_cases hm : l.take 3 = [84, 77, 1]
    · exact kind_rest w v l hv hl hm
    · exact kind_mark w v l hv hl hm
  · exact kind_len w v l hv hl
end Go.Proofs.YtagchbpofoidmaaDoor
