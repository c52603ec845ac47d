/-
  The statement SectorNil: a disk that nobody made answers ErrNil, and nothing; bytes make a disk that has them. Conditions: none.
-/
import Derived.Test.YtlikbnhplfchiaaSecO
import Derived.Test.YtlikbnhplfchiaaOrd
namespace Go.Proofs.Ytlikbnhplfchiaa.sectorNil
open Go.ChangeShapes Go.WideShapes Go.ChangeAt Go.RowKit Go.Maps
set_option linter.unusedVariables false

theorem wrapQ {m : Nat} (h : m ≤ 9223372036854775807) : IntKind.i64.wrap ((m : Int) / 512) = (m : Int) / 512 := by
  rw [IntKind.wrap_i64]; omega

set_option maxRecDepth 100000 in
set_option maxHeartbeats 4000000 in
theorem walk_great (w : World) (x : Int) (v : Value) (l : List UInt8) (vk : Value) (keep : List Bool) (torn bytes : Int) (hv : Byt w v l) (hk : Rowz w vk (keep.map Value.bool)) (h : 20480 < l.length ∨ 100 < keep.length) :
    Calls Try.prog 5 #[.int .i64 x, v, .agg (crashV vk torn bytes)] w fun e w' => e = .returned (.bool true) ∧ Below w.heap.size w w' := by
  obtain ⟨A, m, c, rfl, N, hnc, hcm⟩ := hv.form
  obtain ⟨A2, m2, c2, rfl, N2, hnc2, hcm2⟩ := hk.form
  have HK := Lib.hid hk
  have HB0 := Lib.hid (below_new w (.cells (crashV (.slice A2 m2 c2) torn bytes) 43))
  clear hv hk
  by_cases hl : 20480 < l.length
  · have hm : (20480 : Int) < (m : Int) := by have := N.out; omega
    unfold crashV at *
    go_enter Try.func5, Try.ntmps5
    go_wp2_with fail
    refine (lives4_any _).mono ?_
    rintro e w1 ⟨rfl, hb1⟩
    have HB1 := Lib.hid (HB0.out.trans (hb1.mono (by simp)))
    clear hb1
    go_wp2_with fail
    go_ret
    exact ⟨rfl, HB1.out⟩
  · have hm : ¬ (20480 : Int) < (m : Int) := by have := N.out; omega
    have LC : Hid (∀ w', Rowz w' (.slice A2 m2 c2) (keep.map Value.bool) → Calls Try.prog 34 #[.agg (crashV (.slice A2 m2 c2) torn bytes), .int .i64 100] w' fun e w'' => e = .returned (.bool false) ∧ Below w'.heap.size w' w'') := fun w' h' => by
      have := light_any w' _ keep torn bytes 100 h'
      rw [show decide ((keep.length : Int) ≤ 100) = false by simp; omega] at this
      exact this
    have hob : (w.alloc (.cells (crashV (.slice A2 m2 c2) torn bytes) 43)).heap[w.heap.size]? = some (.cells (crashV (.slice A2 m2 c2) torn bytes) 43) := heap_alloc_new w _
    have HOB := Lib.hid hob
    clear hob h
    unfold crashV at *
    go_enter Try.func5, Try.ntmps5
    go_wp2_with fail
    refine (lives4_any _).mono ?_
    rintro e w1 ⟨rfl, hb1⟩
    have hob1 := (hb1.block w.heap.size (by simp)).trans HOB.out
    have d0 : w1.cell? ⟨w.heap.size, 0, none⟩ = some (.slice A2 m2 c2) := by rw [cell_of_row _ _ _ _ _ _ hob1]; rfl
    have d1 : w1.cell? ⟨w.heap.size, 1, none⟩ = some (.int .i64 torn) := by rw [cell_of_row _ _ _ _ _ _ hob1]; rfl
    have d2 : w1.cell? ⟨w.heap.size, 2, none⟩ = some (.int .i64 bytes) := by rw [cell_of_row _ _ _ _ _ _ hob1]; rfl
    have HB1 := Lib.hid (HB0.out.trans (hb1.mono (by simp)))
    clear hb1 hob1
    go_wp2_with fail
    refine (LC.out _ (HK.out.below HB1.out)).mono ?_
    rintro e w2 ⟨rfl, hb2⟩
    have HB2 := Lib.hid (HB1.out.trans (hb2.mono HB1.out.size))
    clear hb2
    go_wp2_with fail
    go_ret
    exact ⟨rfl, HB2.out⟩

set_option maxRecDepth 100000 in
set_option maxHeartbeats 4000000 in
theorem walk_few (w : World) (x : Int) (v : Value) (l : List UInt8) (vk : Value) (keep : List Bool) (torn bytes : Int) (hv : Byt w v l) (hk : Rowz w vk (keep.map Value.bool)) (hl : l.length ≤ 20480) (hkl : keep.length ≤ 100) :
    Calls Try.prog 5 #[.int .i64 x, v, .agg (crashV vk torn bytes)] w fun e w' => e = .returned (.bool true) ∧ Below w.heap.size w w' := by
  obtain ⟨A, m, c, rfl, N, hnc, hcm⟩ := hv.form
  obtain ⟨A2, m2, c2, rfl, N2, hnc2, hcm2⟩ := hk.form
  have HV := Lib.hid hv
  have HK := Lib.hid hk
  have HB0 := Lib.hid (below_new w (.cells (crashV (.slice A2 m2 c2) torn bytes) 43))
  clear hv hk
  have hm : ¬ (20480 : Int) < (m : Int) := by have := N.out; omega
  have LC : Hid (∀ w', Rowz w' (.slice A2 m2 c2) (keep.map Value.bool) → Calls Try.prog 34 #[.agg (crashV (.slice A2 m2 c2) torn bytes), .int .i64 100] w' fun e w'' => e = .returned (.bool true) ∧ Below w'.heap.size w' w'') := fun w' h' => by
    have := light_any w' _ keep torn bytes 100 h'
    rw [show decide ((keep.length : Int) ≤ 100) = true by simp; omega] at this
    exact this
  have CN : Hid (∀ w', Rowz w' (.slice A2 m2 c2) (keep.map Value.bool) → Calls Try.prog 23 #[.pointer none, .agg (crashV (.slice A2 m2 c2) torn bytes)] w' fun e w'' => e = .returned (.int .i64 1) ∧ Below w'.heap.size w' w'') := fun w' h' => crash_nil w' _ keep torn bytes h'
  have HOB : Hid ((w.alloc (.cells (crashV (.slice A2 m2 c2) torn bytes) 43)).heap[w.heap.size]? = some (.cells (crashV (.slice A2 m2 c2) torn bytes) 43)) := heap_alloc_new w _
  have HOW : Hid (∀ w', Byt w' (.slice A m c) l → Calls Try.prog 35 #[.slice A m c] w' (Made w' l)) := fun w' h' => kitown_any w' _ l h' (by omega)
  unfold crashV at *
  go_enter Try.func5, Try.ntmps5
  go_wp2_with fail
  refine (lives4_any _).mono ?_
  rintro e w1 ⟨rfl, hb1⟩
  have hob1 := (hb1.block w.heap.size (by simp)).trans HOB.out
  have d0 : w1.cell? ⟨w.heap.size, 0, none⟩ = some (.slice A2 m2 c2) := by rw [cell_of_row _ _ _ _ _ _ hob1]; rfl
  have d1 : w1.cell? ⟨w.heap.size, 1, none⟩ = some (.int .i64 torn) := by rw [cell_of_row _ _ _ _ _ _ hob1]; rfl
  have d2 : w1.cell? ⟨w.heap.size, 2, none⟩ = some (.int .i64 bytes) := by rw [cell_of_row _ _ _ _ _ _ hob1]; rfl
  have HB1 := Lib.hid (HB0.out.trans (hb1.mono (by simp)))
  have HC1 := Lib.hid hob1
  have hs1 : w.heap.size < w1.heap.size := (Array.getElem?_eq_some_iff.1 hob1).1
  clear hb1 hob1
  go_wp2_with fail
  refine (LC.out _ (HK.out.below HB1.out)).mono ?_
  rintro e w2 ⟨rfl, hb2⟩
  have HB2 := Lib.hid (HB1.out.trans (hb2.mono HB1.out.size))
  have hob2 := (hb2.block w.heap.size hs1).trans HC1.out
  have HC2 := Lib.hid hob2
  have hs2 : w.heap.size < w2.heap.size := (Array.getElem?_eq_some_iff.1 hob2).1
  clear hb2 hob2 d0 d1 d2
  go_wp2_with fail
  refine (read_nil _ x).mono ?_
  rintro e w3 ⟨rfl, rfl⟩
  go_wp2_with fail
  refine (write_nil _ x _ l (HV.out.below HB2.out)).mono ?_
  rintro e w3 ⟨rfl, rfl⟩
  go_wp2_with fail
  refine (flush_nil _).mono ?_
  rintro e w3 ⟨rfl, rfl⟩
  go_wp2_with fail
  refine (fail_nil _ x).mono ?_
  rintro e w3 ⟨rfl, hb3⟩
  have HB3 := Lib.hid (HB2.out.trans (hb3.mono HB2.out.size))
  have hob3 := (hb3.block w.heap.size hs2).trans HC2.out
  have d0 : w3.cell? ⟨w.heap.size, 0, none⟩ = some (.slice A2 m2 c2) := by rw [cell_of_row _ _ _ _ _ _ hob3]; rfl
  have d1 : w3.cell? ⟨w.heap.size, 1, none⟩ = some (.int .i64 torn) := by rw [cell_of_row _ _ _ _ _ _ hob3]; rfl
  have d2 : w3.cell? ⟨w.heap.size, 2, none⟩ = some (.int .i64 bytes) := by rw [cell_of_row _ _ _ _ _ _ hob3]; rfl
  clear hb3 hob3
  go_wp2_with fail
  refine (CN.out _ (HK.out.below HB3.out)).mono ?_
  rintro e w4 ⟨rfl, hb4⟩
  have HB4 := Lib.hid (HB3.out.trans (hb4.mono HB3.out.size))
  clear hb4 d0 d1 d2
  go_wp2_with fail
  refine (sectors_nil _).mono ?_
  rintro e w5 ⟨rfl, rfl⟩
  go_wp2_with fail
  refine (cached_nil _).mono ?_
  rintro e w5 ⟨rfl, rfl⟩
  go_wp2_with fail
  refine (image_nil _).mono ?_
  rintro e w5 ⟨rfl, rfl⟩
  go_wp2_with fail
  refine (HOW.out _ (HV.out.below HB4.out)).mono ?_
  rintro e w5 ⟨v5, rfl, hown5, hb5⟩
  have HV5 := Lib.hid hown5.byt
  have HB5 := Lib.hid (HB4.out.trans (hb5.mono HB4.out.size))
  clear hown5 hb5
  by_cases hmay : MayOf l
  · go_wp2_with fail
    refine (sof_any _ _ l HV5.out hmay).mono ?_
    rintro e w6 ⟨g, rfl, hd6, hb6⟩
    have HB6 := Lib.hid (HB5.out.trans (hb6.mono HB5.out.size))
    have HDD := Lib.hid (show Dsk w6.drew _ g (ofS l) from hd6.same (Nat.le_refl _) (fun _ _ => rfl))
    have HVB := Lib.hid (show Byt w6.drew _ l from (HV.out.below HB6.out).drew)
    have HWD := Lib.hid (show Below w.heap.size w w6.drew from HB6.out.drew)
    have IM : Hid (∀ w' {S}, Dsk w' S g (ofS l) → Calls Try.prog 31 #[.pointer (some ⟨g, 0, none⟩)] w' (Made w' l)) := fun w' S h => image_is w' S g (ofS l) h
    have SE : Hid (∀ w' {S}, Dsk w' S g (ofS l) → Calls Try.prog 15 #[.pointer (some ⟨g, 0, none⟩)] w' fun e w'' => e = .returned (.int .i64 ((m / 512 : Nat) : Int)) ∧ w' = w'') := fun w' S h => by
      have := sectors_any w' S g (ofS l) h
      rw [N.out]
      exact this
    have hq : (((m / 512 : Nat) : Int) == (m : Int) / 512) = true := by simp
    clear hd6 hb6
    go_wp2_with fail
    refine wp_region_R (R := fun x y => Below x.heap.size x y) (by kernel_rfl) (fun _ => Below.refl _ _) (fun h k => h.trans (k.mono h.size)) (by kernel_rfl) (fun d v c a w h => by cases d <;> exact h)
      [(0, false), (3, false), (4, false), (1, true), (2, false), (5, false), (6, false), (7, false), (9, false), (10, false), (11, false), (8, true), (12, false), (13, false), (14, false)] rfl (by kernel_rfl) (by kernel_rfl) ?_
    simp only [sel, List.getElem?_toArray, List.getElem?_cons_succ, List.getElem?_cons_zero]
    generalize w6.drew = wd at *
    iterate 2 (refine sch_take ?_ rfl ?_ ?_; rotate_left; (focus (intro u hu; go_simp <;> rfl)); simp only [Act.put, List.setIfInBounds_toArray, List.set_cons_zero, List.set_cons_succ])
    (refine sch_take ?_ rfl ?_ ?_; rotate_left; (focus (intro u hu; have tx := stext_of (HVB.out.below hu); clear hu; go_simp <;> rfl)); simp only [Act.put, List.setIfInBounds_toArray, List.set_cons_zero, List.set_cons_succ])
    refine sch_call rfl ?_
    intro K hK
    go_simp
    refine (IM.out _ (HDD.out)).mono ?_
    rintro e y1 ⟨vi, rfl, howni, hbi⟩
    go_wp2_with fail
    refine hK _ _ hbi ?_
    clear hK K
    have HVI := Lib.hid howni.byt
    have HDD := Lib.hid (HDD.out.below hbi)
    have HVB := Lib.hid (HVB.out.below hbi)
    have HWD := Lib.hid (HWD.out.trans (hbi.mono HWD.out.size))
    clear howni hbi
    (refine sch_take ?_ rfl ?_ ?_; rotate_left; (focus (intro u hu; have tx := stext_of (HVI.out.below hu); clear hu; go_simp <;> rfl)); simp only [Act.put, List.setIfInBounds_toArray, List.set_cons_zero, List.set_cons_succ])
    iterate 6 (refine sch_take ?_ rfl ?_ ?_; rotate_left; (focus (intro u hu; go_simp <;> rfl)); simp only [Act.put, List.setIfInBounds_toArray, List.set_cons_zero, List.set_cons_succ])
    refine sch_call rfl ?_
    intro K hK
    go_simp
    refine (SE.out _ (HDD.out)).mono ?_
    rintro e y2 ⟨rfl, rfl⟩
    go_wp2_with fail
    refine hK _ _ (Below.refl _ _) ?_
    clear hK K
    iterate 3 (refine sch_take ?_ rfl ?_ ?_; rotate_left; (focus (intro u hu; go_simp <;> rfl)); simp only [Act.put, List.setIfInBounds_toArray, List.set_cons_zero, List.set_cons_succ])
    refine sch_nil ?_
    go_wp2_with fail
    go_ret
    exact ⟨show Ending.returned (.bool ((m : Int) / 512 == IntKind.i64.wrap ((m : Int) / 512))) = _ by rw [wrapQ (by omega)]; simp, HWD.out⟩
  · have hm2 : m = 0 ∨ ¬ m % 512 = 0 := by have := N.out; unfold MayOf at hmay; omega
    by_cases h0 : m = 0
    · subst h0
      go_wp2_with fail
      refine (sof_bad _ _ l HV5.out hmay).mono ?_
      rintro e w6 ⟨rfl, rfl⟩
      go_wp2_with fail
      go_ret
      exact ⟨rfl, HB5.out⟩
    · have h1 : ((m : Int) == 0) = false := by simp; omega
      have h2 : ((m : Int) % 512 == 0) = false := by simp; omega
      go_wp2_with fail
      refine (sof_bad _ _ l HV5.out hmay).mono ?_
      rintro e w6 ⟨rfl, rfl⟩
      go_wp2_with fail
      go_ret
      exact ⟨show Ending.returned (.bool ((m : Int) % 512 != 0)) = _ by simp only [bne, h2]; rfl, HB5.out⟩

theorem walk (w : World) (x : Int) (v : Value) (l : List UInt8) (vk : Value) (keep : List Bool) (torn bytes : Int) (_hx : -9223372036854775808 ≤ x ∧ x ≤ 9223372036854775807) (hv : Byt w v l) (hk : Rowz w vk (keep.map Value.bool)) (_ht : -9223372036854775808 ≤ torn ∧ torn ≤ 9223372036854775807) (_hb : -9223372036854775808 ≤ bytes ∧ bytes ≤ 9223372036854775807) :
    Calls Try.prog 5 #[.int .i64 x, v, .agg (crashV vk torn bytes)] w fun e w' => e = .returned (.bool true) ∧ Below w.heap.size w w' := by
  by_cases h : 20480 < l.length ∨ 100 < keep.length
  · exact walk_great w x v l vk keep torn bytes hv hk h
  · exact walk_few w x v l vk keep torn bytes hv hk (by omega) (by omega)

set_option maxRecDepth 100000 in
theorem lifted (os : Os) (started : os.Started) (H : Type) (enc : TypeId × Value → H) :
    ReturnsInHanded {} Try.checked os 5 .any (Rows.sectorNilSpec.pre6 enc Try.prog Try.f5 Rows.sectorNilRow.domain false) (Rows.sectorNilSpec.post enc Try.prog Try.f5 false true false false) := by
  refine returnsInHanded_of_change (C := Try.checked) ownKnobs started (by kernel_rfl) Try.func5
    (ChangeSpec.witness6 (enc := enc) (C := Try.checked) false ⟨#[], #[.int .i64 0, .slice none 0 0, .agg (crashV (.slice none 0 0) 0 0)], []⟩ 8 (by kernel_rfl) (by kernel_rfl) (by kernel_rfl) (by kernel_rfl)) ?_
  intro W base args ds gs before hval0 hW hcnd _
  have hval : ∀ (j : Nat) t v, Try.f5.params[j]? = some t → args[j]? = some v → Value.okWide Try.prog W .any base t v := hval0
  have hW' := hW
  obtain ⟨p, q, hA0, hV, rfl, hfz, hnd⟩ := hW
  have hA : DataW.TrodAll enc Try.prog W 0 (fun _ => true) true Try.f5.params.toList args.toList ds p := hA0
  rw [Try.params5] at hA hval
  obtain ⟨v0, vs0, d0, ds0, p0, q0, hargs, rfl, rfl, h0, r0⟩ := trodAll_cons hA
  obtain ⟨v1, vs1, d1, ds1, p1, q1, rfl, rfl, rfl, h1, r1⟩ := trodAll_cons r0
  obtain ⟨v2, vs2, d2, ds2, p2, q2, rfl, rfl, rfl, h2, r2⟩ := trodAll_cons r1
  obtain ⟨rfl, rfl, rfl⟩ := trodAll_nil r2
  obtain rfl : args = #[v0, v1, v2] := by cases args; simp_all
  obtain ⟨rfl, rfl⟩ := trodVars_none hV
  obtain ⟨a0, rfl, rfl, rfl, w0⟩ := open_int Try.underlying3 (hval 0 3 v0 rfl rfl) h0
  have b0 := open_i64 w0
  have k1 := h1
  have lt1 : ∀ x ∈ p1, x.block < W.heap.size := by obtain ⟨m, hm⟩ := k1; exact DataW.trod_lt m _ _ _ hm
  obtain ⟨l1, b1⟩ := open_bytes (hval 1 27 v1 rfl rfl) h1
  have k2 := h2
  have lt2 : ∀ x ∈ p2, x.block < W.heap.size := by obtain ⟨m, hm⟩ := k2; exact DataW.trod_lt m _ _ _ hm
  obtain ⟨vk2, kp2, to2, by2, rfl, b2, bt2, bb2⟩ := open_crash (hval 2 43 v2 rfl rfl) h2
  clear hA0 hval0
  refine (walk W a0 v1 l1 vk2 kp2 to2 by2 b0 b1 b2 bt2 bb2).mono fun e W' ⟨he, bel⟩ => ?_
  subst he
  exact ⟨_, rfl, _, _, _, [], _, [], hW', trodAll_mk1 (shut_bool Try.underlying4 _), (trodAll_cons_mk (shut_int Try.underlying3 w0) (trodAll_cons_mk (Below.trod laidOuts (by kernel_rfl) (of_decide_eq_true (by kernel_rfl)) k1 bel lt1) (trodAll_cons_mk (Below.trod laidOuts (by kernel_rfl) (of_decide_eq_true (by kernel_rfl)) k2 bel lt2) trodAll_mk0))), rfl, bel.frame _, fun h => by cases h⟩

theorem over : Rows.sectorNilRow.holds Try.pinned (OpenSpec.ofChange Rows.sectorNilSpec) :=
  OpenClaim.holds_of_wide 5 Try.f5 rfl rfl rfl rfl rfl rfl rfl ⟨rfl, rfl, rfl, rfl, rfl⟩ rfl rfl rfl rfl rfl (by kernel_rfl) Try.func5 (by kernel_rfl)
    (of_decide_eq_true (by kernel_rfl)) (by unfold Func.isWrapper; first | (rw [if_pos (by decide +kernel)]; kernel_rfl) | (rw [if_neg (by decide +kernel)]; exact ⟨rfl, rfl⟩))
    (fun os started H enc _ => lifted os started H enc)

theorem proved : Rows.SectorNilSaid := over
#print axioms proved
end Go.Proofs.Ytlikbnhplfchiaa.sectorNil
