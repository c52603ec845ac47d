/-
  The statement OctetLays: what is laid down is what the document says, for every bytes, number and width. Conditions: none.
-/
import Derived.Test.YtledbkohbjefhaaLives
import Derived.Test.YtledbkohbjefhaaRef1
import Derived.Test.YtledbkohbjefhaaOrd
import Derived.Test.YtledbkohbjefhaaOpen
namespace Go.Proofs.Ytledbkohbjefhaa.octetLays
open Go.ChangeShapes Go.WideShapes Go.ChangeAt Go.RowKit
set_option linter.unusedVariables false

set_option maxRecDepth 100000 in
set_option maxHeartbeats 8000000 in
theorem walk_small (w : World) (b x : Value) (l m : List UInt8) (n : Nat) (k : Int) (hb : Byt w b l) (hx : Byt w x m) (hl : l.length ≤ 3000) (hm : m.length ≤ 3000) (hn : n < 18446744073709551616) :
    Calls Try.prog 4 #[b, x, .int .u64 n, .int .i64 k] w fun e w' => e = .returned (.bool true) ∧ Below w.heap.size w w' := by
  have HB := Lib.hid hb
  have HX := Lib.hid hx
  obtain ⟨A0, n0, c0, rfl, N0, _, _⟩ := hb.form
  obtain ⟨A1, n1, c1, rfl, N1, _, _⟩ := hx.form
  have h0 : ¬ (3000 : Int) < (n0 : Int) := by have := N0.out; omega
  have h1 : ¬ (3000 : Int) < (n1 : Int) := by have := N1.out; omega
  have HN := Lib.hid hn
  clear hb hx hn
  go_enter Try.func4, Try.ntmps4
  go_wp2_with fail
  refine (lives_any _).mono ?_
  rintro e w1 ⟨rfl, hb1⟩
  go_wp2_with fail
  refine wp_region_R (R := fun x y => Below x.heap.size x y) (by kernel_rfl) (fun _ => Below.refl _ _) (fun h k => h.trans (k.mono h.size)) (by kernel_rfl) (fun d v c a w h => by cases d <;> exact h)
    [(0, false), (2, false), (5, false), (6, false), (1, true), (3, true), (4, false), (7, true), (8, false), (9, false), (10, false), (11, false), (13, false), (14, false), (17, false), (18, false), (19, false), (12, true), (15, true), (16, false), (20, true), (21, false), (22, false), (23, false), (24, false), (25, false), (27, false), (30, false), (31, false), (26, true), (28, true), (29, false), (32, true), (33, false), (34, false), (35, false), (36, false), (37, false), (39, false), (38, true), (40, true), (41, false), (42, false), (43, false)] rfl (by kernel_rfl) (by kernel_rfl) ?_
  simp only [sel, List.getElem?_toArray, List.getElem?_cons_succ, List.getElem?_cons_zero]
  have HB0 := Lib.hid (show Byt w1.drew _ l from HB.out.below hb1.drew)
  have HX0 := Lib.hid (show Byt w1.drew _ m from HX.out.below hb1.drew)
  have hw0 : Below w.heap.size w w1.drew := hb1.drew
  iterate 4 (refine sch_take ?_ rfl ?_ ?_; rotate_left; (focus (intro u hu; go_simp <;> rfl)); simp only [Act.put, List.setIfInBounds_toArray, List.set_cons_zero, List.set_cons_succ])
  refine sch_call rfl ?_
  intro K hK
  go_simp
  refine (kitown_any _ _ l HB0.out (by omega)).mono ?_
  rintro e wr1 ⟨v1, rfl, ho1, hb1⟩
  go_wp2_with fail
  refine hK _ _ hb1 ?_
  clear hK K
  have H1 := Lib.hid ho1.byt
  have HB1 := Lib.hid (HB0.out.below hb1)
  have HX1 := Lib.hid (HX0.out.below hb1)
  have hw1 := hw0.trans (hb1.mono hw0.size)
  clear ho1 hb1
  refine sch_call rfl ?_
  intro K hK
  go_simp
  refine (number_any _ _ l n H1.out HN.out (by omega)).mono ?_
  rintro e wr3 ⟨v3, rfl, ho3, hb3⟩
  go_wp2_with fail
  refine hK _ _ hb3 ?_
  clear hK K
  have H3 := Lib.hid ho3.byt
  have HB3 := Lib.hid (HB1.out.below hb3)
  have HX3 := Lib.hid (HX1.out.below hb3)
  have hw3 := hw1.trans (hb3.mono hw1.size)
  clear ho3 hb3
  (refine sch_take ?_ rfl ?_ ?_; rotate_left; (focus (intro u hu; have hcv := text_of (H3.out.below hu); go_simp <;> rfl)); simp only [Act.put, List.setIfInBounds_toArray, List.set_cons_zero, List.set_cons_succ])
  refine sch_call rfl ?_
  intro K hK
  go_simp
  refine (refnumber_any _ _ l n HB3.out HN.out (by omega)).mono ?_
  rintro e wr7 ⟨v7, rfl, ho7, hb7⟩
  go_wp2_with fail
  refine hK _ _ hb7 ?_
  clear hK K
  have H7 := Lib.hid ho7.byt
  have HB7 := Lib.hid (HB3.out.below hb7)
  have HX7 := Lib.hid (HX3.out.below hb7)
  have hw7 := hw3.trans (hb7.mono hw3.size)
  clear ho7 hb7
  (refine sch_take ?_ rfl ?_ ?_; rotate_left; (focus (intro u hu; have hcv := text_of (H7.out.below hu); go_simp <;> rfl)); simp only [Act.put, List.setIfInBounds_toArray, List.set_cons_zero, List.set_cons_succ])
  iterate 8 (refine sch_take ?_ rfl ?_ ?_; rotate_left; (focus (intro u hu; go_simp <;> rfl)); simp only [Act.put, List.setIfInBounds_toArray, List.set_cons_zero, List.set_cons_succ])
  refine sch_call rfl ?_
  intro K hK
  go_simp
  refine (kitown_any _ _ l HB7.out (by omega)).mono ?_
  rintro e wr12 ⟨v12, rfl, ho12, hb12⟩
  go_wp2_with fail
  refine hK _ _ hb12 ?_
  clear hK K
  have H12 := Lib.hid ho12.byt
  have HB12 := Lib.hid (HB7.out.below hb12)
  have HX12 := Lib.hid (HX7.out.below hb12)
  have hw12 := hw7.trans (hb12.mono hw7.size)
  clear ho12 hb12
  refine sch_call rfl ?_
  intro K hK
  go_simp
  refine (word_any _ _ l n k H12.out HN.out (by omega)).mono ?_
  rintro e wr15 ⟨v15, rfl, ho15, hb15⟩
  go_wp2_with fail
  refine hK _ _ hb15 ?_
  clear hK K
  have H15 := Lib.hid ho15.byt
  have HB15 := Lib.hid (HB12.out.below hb15)
  have HX15 := Lib.hid (HX12.out.below hb15)
  have hw15 := hw12.trans (hb15.mono hw12.size)
  clear ho15 hb15
  (refine sch_take ?_ rfl ?_ ?_; rotate_left; (focus (intro u hu; have hcv := text_of (H15.out.below hu); go_simp <;> rfl)); simp only [Act.put, List.setIfInBounds_toArray, List.set_cons_zero, List.set_cons_succ])
  refine sch_call rfl ?_
  intro K hK
  go_simp
  refine (refword_any _ _ l n k HB15.out HN.out (by omega)).mono ?_
  rintro e wr20 ⟨v20, rfl, ho20, hb20⟩
  go_wp2_with fail
  refine hK _ _ hb20 ?_
  clear hK K
  have H20 := Lib.hid ho20.byt
  have HB20 := Lib.hid (HB15.out.below hb20)
  have HX20 := Lib.hid (HX15.out.below hb20)
  have hw20 := hw15.trans (hb20.mono hw15.size)
  clear ho20 hb20
  (refine sch_take ?_ rfl ?_ ?_; rotate_left; (focus (intro u hu; have hcv := text_of (H20.out.below hu); go_simp <;> rfl)); simp only [Act.put, List.setIfInBounds_toArray, List.set_cons_zero, List.set_cons_succ])
  iterate 7 (refine sch_take ?_ rfl ?_ ?_; rotate_left; (focus (intro u hu; go_simp <;> rfl)); simp only [Act.put, List.setIfInBounds_toArray, List.set_cons_zero, List.set_cons_succ])
  refine sch_call rfl ?_
  intro K hK
  go_simp
  refine (kitown_any _ _ l HB20.out (by omega)).mono ?_
  rintro e wr26 ⟨v26, rfl, ho26, hb26⟩
  go_wp2_with fail
  refine hK _ _ hb26 ?_
  clear hK K
  have H26 := Lib.hid ho26.byt
  have HB26 := Lib.hid (HB20.out.below hb26)
  have HX26 := Lib.hid (HX20.out.below hb26)
  have hw26 := hw20.trans (hb26.mono hw20.size)
  clear ho26 hb26
  refine sch_call rfl ?_
  intro K hK
  go_simp
  refine (block_any _ _ _ l m H26.out HX26.out (by omega)).mono ?_
  rintro e wr28 ⟨v28, rfl, ho28, hb28⟩
  go_wp2_with fail
  refine hK _ _ hb28 ?_
  clear hK K
  have H28 := Lib.hid ho28.byt
  have HB28 := Lib.hid (HB26.out.below hb28)
  have HX28 := Lib.hid (HX26.out.below hb28)
  have hw28 := hw26.trans (hb28.mono hw26.size)
  clear ho28 hb28
  (refine sch_take ?_ rfl ?_ ?_; rotate_left; (focus (intro u hu; have hcv := text_of (H28.out.below hu); go_simp <;> rfl)); simp only [Act.put, List.setIfInBounds_toArray, List.set_cons_zero, List.set_cons_succ])
  refine sch_call rfl ?_
  intro K hK
  go_simp
  refine (refblock_any _ _ _ l m HB28.out HX28.out (by omega)).mono ?_
  rintro e wr32 ⟨v32, rfl, ho32, hb32⟩
  go_wp2_with fail
  refine hK _ _ hb32 ?_
  clear hK K
  have H32 := Lib.hid ho32.byt
  have HB32 := Lib.hid (HB28.out.below hb32)
  have HX32 := Lib.hid (HX28.out.below hb32)
  have hw32 := hw28.trans (hb32.mono hw28.size)
  clear ho32 hb32
  (refine sch_take ?_ rfl ?_ ?_; rotate_left; (focus (intro u hu; have hcv := text_of (H32.out.below hu); go_simp <;> rfl)); simp only [Act.put, List.setIfInBounds_toArray, List.set_cons_zero, List.set_cons_succ])
  iterate 5 (refine sch_take ?_ rfl ?_ ?_; rotate_left; (focus (intro u hu; go_simp <;> rfl)); simp only [Act.put, List.setIfInBounds_toArray, List.set_cons_zero, List.set_cons_succ])
  refine sch_call rfl ?_
  intro K hK
  go_simp
  refine (size_any n _ HN.out).mono ?_
  rintro e wr38 ⟨rfl, rfl⟩
  go_wp2_with fail
  refine hK _ _ (Below.refl _ _) ?_
  clear hK K
  refine sch_call rfl ?_
  intro K hK
  go_simp
  refine (refsize_any _ n HN.out).mono ?_
  rintro e wr40 ⟨rfl, hb40⟩
  go_wp2_with fail
  refine hK _ _ hb40 ?_
  clear hK K
  have hw40 := hw32.trans (hb40.mono hw32.size)
  iterate 3 (refine sch_take ?_ rfl ?_ ?_; rotate_left; (focus (intro u hu; go_simp <;> rfl)); simp only [Act.put, List.setIfInBounds_toArray, List.set_cons_zero, List.set_cons_succ])
  refine sch_nil ?_
  go_wp2_with fail
  go_ret
  exact ⟨rfl, hw40⟩

set_option maxHeartbeats 1000000 in
theorem walk_big (w : World) (b x : Value) (l m : List UInt8) (n : Nat) (k : Int) (hb : Byt w b l) (hx : Byt w x m) (hbig : 3000 < l.length ∨ 3000 < m.length) :
    Calls Try.prog 4 #[b, x, .int .u64 n, .int .i64 k] w fun e w' => e = .returned (.bool true) ∧ Below w.heap.size w w' := by
  obtain ⟨A0, n0, c0, rfl, N0, _, _⟩ := hb.form
  obtain ⟨A1, n1, c1, rfl, N1, _, _⟩ := hx.form
  clear hb hx
  by_cases h : (3000 : Int) < (n0 : Int)
  · clear hbig
    go_enter Try.func4, Try.ntmps4
    go_wp2_with fail
    refine (lives_any _).mono ?_
    rintro e w1 ⟨rfl, hb1⟩
    go_wp2_with fail
    go_ret
    exact ⟨rfl, hb1⟩
  · have h1 : (3000 : Int) < (n1 : Int) := by have := N0.out; have := N1.out; omega
    clear hbig
    go_enter Try.func4, Try.ntmps4
    go_wp2_with fail
    refine (lives_any _).mono ?_
    rintro e w1 ⟨rfl, hb1⟩
    go_wp2_with fail
    go_ret
    exact ⟨rfl, hb1⟩

theorem walk (w : World) (b : Value) (l : List UInt8) (x : Value) (m : List UInt8) (n : Nat) (k : Int) (hb : Byt w b l) (hx : Byt w x m) (hn : n < 18446744073709551616) (hk : -9223372036854775808 ≤ k ∧ k ≤ 9223372036854775807) :
    Calls Try.prog 4 #[b, x, .int .u64 n, .int .i64 k] w fun e w' => e = .returned (.bool true) ∧ Below w.heap.size w w' := by
  by_cases h : 3000 < l.length ∨ 3000 < m.length
  · exact walk_big w b x l m n k hb hx h
  · exact walk_small w b x l m n k hb hx (by omega) (by omega) hn

set_option maxRecDepth 100000 in
theorem lifted (os : Os) (started : os.Started) (H : Type) (enc : TypeId × Value → H) :
    ReturnsInHanded {} Try.checked os 4 .any (Rows.octetLaysSpec.pre6 enc Try.prog Try.f4 Rows.octetLaysRow.domain false) (Rows.octetLaysSpec.post enc Try.prog Try.f4 false true false false) := by
  refine returnsInHanded_of_change (C := Try.checked) ownKnobs started (by kernel_rfl) Try.func4
    (ChangeSpec.witness6 (enc := enc) (C := Try.checked) false ⟨#[], #[.slice none 0 0, .slice none 0 0, .int .u64 0, .int .i64 0], []⟩ 8 (by kernel_rfl) (by kernel_rfl) (by kernel_rfl) (by kernel_rfl)) ?_
  intro W base args ds gs before hval0 hW hcnd _
  have hval : ∀ (j : Nat) t v, Try.f4.params[j]? = some t → args[j]? = some v → Value.okWide Try.prog W .any base t v := hval0
  have hW' := hW
  obtain ⟨p, q, hA0, hV, rfl, hfz, hnd⟩ := hW
  have hA : DataW.TrodAll enc Try.prog W 0 (fun _ => true) true Try.f4.params.toList args.toList ds p := hA0
  rw [Try.params4] at hA hval
  obtain ⟨v0, vs0, d0, ds0, p0, q0, hargs, rfl, rfl, h0, r0⟩ := trodAll_cons hA
  obtain ⟨v1, vs1, d1, ds1, p1, q1, rfl, rfl, rfl, h1, r1⟩ := trodAll_cons r0
  obtain ⟨v2, vs2, d2, ds2, p2, q2, rfl, rfl, rfl, h2, r2⟩ := trodAll_cons r1
  obtain ⟨v3, vs3, d3, ds3, p3, q3, rfl, rfl, rfl, h3, r3⟩ := trodAll_cons r2
  obtain ⟨rfl, rfl, rfl⟩ := trodAll_nil r3
  obtain rfl : args = #[v0, v1, v2, v3] := by cases args; simp_all
  obtain ⟨rfl, rfl⟩ := trodVars_none hV
  have k0 := h0
  have lt0 : ∀ x ∈ p0, x.block < W.heap.size := by obtain ⟨m, hm⟩ := k0; exact DataW.trod_lt m _ _ _ hm
  obtain ⟨l0, b0⟩ := open_bytes (hval 0 24 v0 rfl rfl) h0
  have k1 := h1
  have lt1 : ∀ x ∈ p1, x.block < W.heap.size := by obtain ⟨m, hm⟩ := k1; exact DataW.trod_lt m _ _ _ hm
  obtain ⟨l1, b1⟩ := open_bytes (hval 1 24 v1 rfl rfl) h1
  obtain ⟨a2, rfl, rfl, rfl, w2⟩ := open_int Try.underlying29 (hval 2 29 v2 rfl rfl) h2
  obtain ⟨n2, rfl, b2⟩ := open_u64 w2
  obtain ⟨a3, rfl, rfl, rfl, w3⟩ := open_int Try.underlying3 (hval 3 3 v3 rfl rfl) h3
  have b3 := open_i64 w3
  clear hA0 hval0
  refine (walk W v0 l0 v1 l1 n2 a3 b0 b1 b2 b3).mono fun e W' ⟨he, bel⟩ => ?_
  subst he
  exact ⟨_, rfl, _, _, _, [], _, [], hW', trodAll_mk1 (shut_bool Try.underlying4 _), (trodAll_cons_mk (Below.trod laidOuts (by kernel_rfl) (of_decide_eq_true (by kernel_rfl)) k0 bel lt0) (trodAll_cons_mk (Below.trod laidOuts (by kernel_rfl) (of_decide_eq_true (by kernel_rfl)) k1 bel lt1) (trodAll_cons_mk (shut_int Try.underlying29 w2) (trodAll_cons_mk (shut_int Try.underlying3 w3) trodAll_mk0)))), rfl, bel.frame _, fun h => by cases h⟩

theorem over : Rows.octetLaysRow.holds Try.pinned (OpenSpec.ofChange Rows.octetLaysSpec) :=
  OpenClaim.holds_of_wide 4 Try.f4 rfl rfl rfl rfl rfl rfl rfl ⟨rfl, rfl, rfl, rfl, rfl⟩ rfl rfl rfl rfl rfl (by kernel_rfl) Try.func4 (by kernel_rfl)
    (of_decide_eq_true (by kernel_rfl)) (by unfold Func.isWrapper; first | (rw [if_pos (by decide +kernel)]; kernel_rfl) | (rw [if_neg (by decide +kernel)]; exact ⟨rfl, rfl⟩))
    (fun os started H enc _ => lifted os started H enc)

theorem proved : Rows.OctetLaysSaid := over
#print axioms proved
end Go.Proofs.Ytledbkohbjefhaa.octetLays
