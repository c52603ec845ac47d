/-
  The statement CrcParts: the sum of parts is the sum of all, however it is cut. Conditions: none.
-/
import Derived.Test.YthabjfnaghdenaaLives3
import Derived.Test.YthabjfnaghdenaaRowz
import Derived.Test.YthabjfnaghdenaaOrd
namespace Go.Proofs.Ythabjfnaghdenaa.crcParts
open Go.ChangeShapes Go.WideShapes Go.ChangeAt Go.RowKit
set_option linter.unusedVariables false

set_option maxRecDepth 100000 in
set_option maxHeartbeats 4000000 in
theorem walk_long (w : World) (v : Value) (l : List UInt8) (u : Value) (zs : List Int) (hv : Byt w v l) (hu : Rowz w u (zs.map (Value.int .i64))) (hl : 3000 < l.length) :
    Calls Try.prog 5 #[v, u] w fun e w' => e = .returned (.bool true) ∧ Below w.heap.size w w' := by
  obtain ⟨A, m, c, rfl, N, hnc, hcm⟩ := hv.form
  obtain ⟨A2, m2, c2, rfl, N2, hnc2, hcm2⟩ := hu.form
  have hm : (3000 : Int) < (m : Int) := by have := N.out; omega
  clear hv hl hu
  go_enter Try.func5, Try.ntmps5
  go_wp2_with fail
  refine (lives3_any _).mono ?_
  rintro e w1 ⟨rfl, hb1⟩
  go_wp2_with fail
  go_ret
  exact ⟨rfl, hb1⟩

set_option maxRecDepth 100000 in
set_option maxHeartbeats 4000000 in
theorem walk_many (w : World) (v : Value) (l : List UInt8) (u : Value) (zs : List Int) (hv : Byt w v l) (hu : Rowz w u (zs.map (Value.int .i64))) (hl : l.length ≤ 3000) (hz : 20 < zs.length) :
    Calls Try.prog 5 #[v, u] w fun e w' => e = .returned (.bool true) ∧ Below w.heap.size w w' := by
  obtain ⟨A, m, c, rfl, N, hnc, hcm⟩ := hv.form
  obtain ⟨A2, m2, c2, rfl, N2, hnc2, hcm2⟩ := hu.form
  have hm : ¬ (3000 : Int) < (m : Int) := by have := N.out; omega
  have hm2 : (20 : Int) < (m2 : Int) := by have := N2.out; rw [List.length_map] at this; omega
  clear hv hl hu
  go_enter Try.func5, Try.ntmps5
  go_wp2_with fail
  refine (lives3_any _).mono ?_
  rintro e w1 ⟨rfl, hb1⟩
  go_wp2_with fail
  go_ret
  exact ⟨rfl, hb1⟩

/-- What holds ahead of each cut. -/
def CutRel (w w3 : World) (nz : Nat) (l : List UInt8) (sum parts rest i : Value) (wr : World) : Prop :=
  ∃ (k : Nat) (ls : List (List UInt8)) (vs : List Value) (r : List UInt8), k ≤ nz ∧ i = .int .i64 (k : Int) ∧ vs.length = k ∧ sum = .int .u32 (onC tabC 0 ls.flatten : Int) ∧ ls.flatten ++ r = l ∧
    OwnR wr w3.heap.size parts vs ∧ Byts w vs ls ∧ (∀ x ∈ vs, x.oneCell' = true) ∧ Byt w rest r ∧ (∀ x ∈ ls, x.length ≤ 3000) ∧ Below w3.heap.size w3 wr
/-- What holds ahead of each step. -/
def StepRel (w4 : World) (l : List UInt8) (st i : Value) (wr : World) : Prop :=
  ∃ k : Nat, k ≤ l.length ∧ i = .int .i64 (k : Int) ∧ st = .int .u32 (runC tabC 4294967295 (l.take k) : Int) ∧ Below w4.heap.size w4 wr

theorem on_next (ls : List (List UInt8)) (r : List UInt8) : onC tabC (onC tabC 0 ls.flatten) r = onC tabC 0 (ls ++ [r]).flatten := by
  rw [List.flatten_append, onC_app tabC_tab, List.flatten_cons, List.flatten_nil, List.append_nil]

set_option maxRecDepth 100000 in
set_option maxHeartbeats 16000000 in
theorem walk_short (w : World) (v : Value) (l : List UInt8) (u : Value) (zs : List Int) (hv : Byt w v l) (hu : Rowz w u (zs.map (Value.int .i64))) (hl : l.length ≤ 3000) (hz : zs.length ≤ 20) :
    Calls Try.prog 5 #[v, u] w fun e w' => e = .returned (.bool true) ∧ Below w.heap.size w w' := by
  obtain ⟨A, m, c, rfl, N, hnc, hcm⟩ := hv.form
  obtain ⟨A2, m2, c2, rfl, N2, hnc2, hcm2⟩ := hu.form
  have hm : ¬ (3000 : Int) < (m : Int) := by have := N.out; omega
  have hm2 : ¬ (20 : Int) < (m2 : Int) := by have := N2.out; rw [List.length_map] at this; omega
  have HV := Lib.hid hv
  have HU := Lib.hid hu
  have HL := Lib.hid hl
  have HZ := Lib.hid hz
  clear hv hl hu hz
  have Z := tabZero
  rw [tabTo_none] at Z
  have T0 := Lib.hid (tabTo_len 0 (by omega))
  generalize tabTo 0 = t0 at *
  have ST := Lib.hid (fun w => crctable_any w)
  have TC := Lib.hid tabC_tab.1
  go_enter Try.func5, Try.ntmps5
  go_wp2_with fail
  refine (lives3_any _).mono ?_
  rintro e w1 ⟨rfl, hb1⟩
  have HB1 := Lib.hid hb1
  clear hb1
  go_wp2_with fail
  refine (ST.out _).mono ?_
  rintro e w2 ⟨rfl, hb2⟩
  have HB2 := Lib.hid (HB1.out.trans (hb2.mono HB1.out.size))
  clear hb2 HB1
  go_wp2_with (refine wpList_storeNew t0 T0.out tabC TC.out rfl _ _ rfl rfl rfl ?_; intro w3 h2 h3 h4; have HB3 := Lib.hid (HB2.out.trans (h3.mono HB2.out.size)); clear HB2 h3 Z ST h4; have HA := Lib.hid h2; clear h2)
  generalize w2.heap.size = g at *
  go_loopw [6, 8, 9, 10] (fun s p r i wr => CutRel w w3 zs.length l s p r i wr) (fun _ _ _ i _ => m2 - (intOf i).toNat)
  case atStart => exact ⟨0, [], [], l, by omega, rfl, rfl, rfl, rfl, OwnR.nil _ _, Byts.nil _, by simp, HV.out, by simp, Below.refl _ _⟩
  case round =>
    obtain ⟨k, ls, vs, r, hkz, rfl, hk, rfl, hlr, hown, hbys, hone, hbr, hls, hbel⟩ := hrel
    obtain ⟨A3, n3, c3, rfl, N3, hnc3, hcm3⟩ := hbr.form
    have HLR := Lib.hid hlr
    have HO := Lib.hid hown
    have HY := Lib.hid hbys
    have H1 := Lib.hid hone
    have HR := Lib.hid hbr
    have HLS := Lib.hid hls
    have HB := Lib.hid hbel
    have HK := Lib.hid hk
    have hr3 : r.length ≤ 3000 := by have h1 := HL.out; have h2 := congrArg List.length HLR.out; rw [List.length_append] at h2; omega
    have hn3 : (n3 : Int) ≤ 3000 := by have := N3.out; omega
    have HON := Lib.hid (onC_lt tabC 0 ls.flatten)
    clear hlr hown hbys hone hbr hls hbel hk
    by_cases hlt : k < zs.length
    · have hkm : (k : Int) < (m2 : Int) := by have := N2.out; rw [List.length_map] at this; omega
      obtain ⟨b2, off2, rfl, hb2, hc2⟩ := (HU.out.below (show Below w.heap.size w wr from HB3.out.trans (HB.out.mono HB3.out.size))).at (k := k) (by rw [List.length_map]; exact hlt)
      have hck := hc2 k (by rw [List.length_map]; exact hlt)
      rw [List.getElem_map] at hck
      generalize zs[k] = z at *
      obtain ⟨q, hq, hqn⟩ : ∃ q : Nat, z % ((n3 : Int) + 1) = (q : Int) ∧ q ≤ n3 := by
        have h1 := Int.emod_nonneg z (show (n3 : Int) + 1 ≠ 0 by omega)
        have h2 := Int.emod_lt_of_pos z (show (0 : Int) < (n3 : Int) + 1 by omega)
        exact ⟨(z % ((n3 : Int) + 1)).toNat, by omega, by omega⟩
      have P0 := Lib.hid (fun w => pick_any z ((n3 : Int) + 1) w (by omega) (by omega))
      rw [hq] at P0
      obtain ⟨A4, n4, c4, r4, b4, N4, l4, m4⟩ := HR.out.uptorun 28 elemByte sizeByte q hqn .i64
      obtain ⟨A5, n5, c5, r5, b5, N5, l5, m5⟩ := HR.out.cutrun 28 elemByte sizeByte q hqn .i64
      have H4 := Lib.hid b4
      have H5 := Lib.hid b5
      have HS : Hid (r.take q ++ r.drop q = r) := List.take_append_drop q r
      have HQ := Lib.hid (on_next ls (r.take q))
      have hl4 : (r.take q).length ≤ 3000 := by rw [List.length_take]; omega
      generalize r.take q = r1 at *
      generalize r.drop q = r2 at *
      generalize onC tabC 0 ls.flatten = y at *
      have C1 := Lib.hid (fun w v hv => crcon_any w tabC y v r1 tabC_tab HON.out hv (by omega))
      obtain ⟨y1, hy1⟩ : ∃ y1, onC tabC 0 (ls ++ [r1]).flatten = y1 := ⟨_, rfl⟩
      rw [HQ.out, hy1] at C1
      have HQ1 := Lib.hid hy1
      clear hy1
      have HV4 := Lib.hid (show Byt wr.drew _ _ from (H4.out.below (show Below w.heap.size w wr from HB3.out.trans (HB.out.mono HB3.out.size))).drew)
      have HA4 := Lib.hid (show ATab wr.drew g tabC from HA.out.below HB.out.drew)
      have HO4 := Lib.hid (show OwnR wr.drew w3.heap.size _ vs from HO.out)
      have HB4 := Lib.hid (show Below w3.heap.size w3 wr.drew from HB.out.drew)
      have hq0 : (0 : Int) ≤ (q : Int) := by omega
      have hvl : vs.length ≤ 1000 := by have := HK.out; have := HZ.out; omega
      clear hc2 hb2 b4 b5 hq HO HB
      go_wp2_with fail
      refine (P0.out _).mono ?_
      rintro e w5 ⟨rfl, rfl⟩
      go_wp2_with fail
      refine wp_region_R (R := fun x y => Below x.heap.size x y) (by kernel_rfl) (fun _ => Below.refl _ _) (fun h k => h.trans (k.mono h.size)) (by kernel_rfl) (fun d v c a w h => by cases d <;> exact h)
        [(0, false), (1, false), (2, false), (3, false), (4, false), (5, true), (6, false)] rfl (by kernel_rfl) (by kernel_rfl) ?_
      simp only [sel, List.getElem?_toArray, List.getElem?_cons_succ, List.getElem?_cons_zero]
      generalize wr.drew = wd at *
      refine sch_take _ rfl (fun u hu => exec_loadTab _ rfl _ rfl (HA4.out.below hu) TC.out) ?_
      simp only [Act.put, List.setIfInBounds_toArray, List.set_cons_zero, List.set_cons_succ]
      iterate 4 (refine sch_take ?_ rfl ?_ ?_; rotate_left; (focus (intro u hu; go_simp <;> rfl)); simp only [Act.put, List.setIfInBounds_toArray, List.set_cons_zero, List.set_cons_succ])
      refine sch_call rfl ?_
      intro K hK
      go_simp
      refine (C1.out _ _ HV4.out).mono ?_
      rintro e y1 ⟨rfl, hb⟩
      go_wp2_with fail
      refine hK _ _ hb ?_
      clear hK K
      have HO4 := Lib.hid (HO4.out.keep hb)
      have HB4 := Lib.hid (HB4.out.trans (hb.mono HB4.out.size))
      clear hb HA4 HV4
      (refine sch_take ?_ rfl ?_ ?_; rotate_left; (focus (intro u hu; go_simp <;> rfl)); simp only [Act.put, List.setIfInBounds_toArray, List.set_cons_zero, List.set_cons_succ])
      refine sch_nil ?_
      go_wp2_with (at_builtin; refine wpList_appR rfl (.tmp 45) (.tmp 49) rfl w3.heap.size _ vs rfl HO4.out (.slice A4 n4 c4) rfl rfl hvl HB4.out.size ?_; intro v6 w6 hown6 hbel6 hs6)
      go_roundw
      case rel => exact ⟨k + 1, ls ++ [r1], vs ++ [.slice A4 n4 c4], r2, by omega, by go_num, by rw [List.length_append, HK.out]; rfl, by rw [HQ1.out], by rw [List.flatten_append, List.flatten_cons, List.flatten_nil, List.append_nil, List.append_assoc, HS.out]; exact HLR.out, hown6, HY.out.snoc H4.out,
        by intro x hx; rcases List.mem_append.1 hx with hx | hx; { exact H1.out x hx }; { rw [List.mem_singleton.1 hx]; rfl }, H5.out, by intro x hx; rcases List.mem_append.1 hx with hx | hx; { exact HLS.out x hx }; { rw [List.mem_singleton.1 hx]; exact hl4 }, hbel6 _ HB4.out⟩
      case measure => simp [intOf]; omega
    · have hkm : ¬ (k : Int) < (m2 : Int) := by have := N2.out; rw [List.length_map] at this; omega
      have HBW := Lib.hid (show Below w.heap.size w wr from HB3.out.trans (HB.out.mono HB3.out.size))
      have HF : Hid ((ls ++ [r]).flatten = l) := by rw [List.flatten_append, List.flatten_cons, List.flatten_nil, List.append_nil]; exact HLR.out
      have HY2 := Lib.hid (HY.out.snoc HR.out)
      have HLS2 : Hid (∀ x ∈ ls ++ [r], x.length ≤ 70368744177664) := by
        intro x hx
        rcases List.mem_append.1 hx with hx | hx
        · have := HLS.out x hx; omega
        · rw [List.mem_singleton.1 hx]; omega
      have C1 := Lib.hid (crcon_any wr tabC (onC tabC 0 ls.flatten) _ r tabC_tab HON.out (HR.out.below HBW.out) (by omega))
      rw [on_next, HF.out] at C1
      generalize onC tabC 0 ls.flatten = y at *
      have HE : Hid (onC tabC 0 l = sumC l) := rfl
      have HS3 : Hid (∀ w v, Byt w v l → Calls Try.prog 13 #[v] w (Word32 w (sumC l))) := fun w v hv => crcsum_any w v l hv (by have := HL.out; omega)
      have HP3 : Hid (∀ w v vs, Rowz w v vs → Byts w vs (ls ++ [r]) → Calls Try.prog 11 #[v] w (Word32 w (sumC l))) := fun w v vs hv hb => by
        have := crcparts_any w v vs (ls ++ [r]) hv hb HLS2.out
        rw [HF.out] at this
        exact this
      rw [HE.out] at C1
      have HN3 : Hid (sumC l = notC (runC tabC 4294967295 l)) := rfl
      generalize sumC l = sl at *
      have HA4 := Lib.hid (HA.out.below HB.out)
      have hvl : vs.length ≤ 1000 := by have := HK.out; have := HZ.out; omega
      go_wp2_with (refine wpList_loadTab rfl _ rfl _ rfl _ HA4.out TC.out ?_)
      refine (C1.out).mono ?_
      rintro e w5 ⟨rfl, hb5⟩
      have HO5 := Lib.hid (HO.out.keep hb5)
      have HB5 := Lib.hid (HB.out.trans (hb5.mono HB.out.size))
      clear hb5 C1 HA4 HO HB HBW
      go_wp2_with (at_builtin; refine wpList_appR rfl (.tmp 58) (.tmp 60) rfl w3.heap.size _ vs rfl HO5.out (.slice A3 n3 c3) rfl rfl hvl HB5.out.size ?_; intro v6 w6 hown6 hbel6 hs6; have HO6 := Lib.hid hown6; have HB6 := Lib.hid (hbel6 _ HB5.out); clear hown6 hbel6 hs6 HO5 HB5)
      go_loopw [7, 12] (fun s i wx => StepRel w6 l s i wx) (fun _ i _ => m - (intOf i).toNat)
      case atStart => exact ⟨0, by omega, rfl, rfl, Below.refl _ _⟩
      case round =>
        obtain ⟨j, hj, rfl, rfl, hbel⟩ := hrel
        have HX := Lib.hid hbel
        clear hbel
        have HVr := Lib.hid ((HV.out.below HB3.out).below (HB6.out.trans (HX.out.mono HB6.out.size)))
        have HYL := Lib.hid (runC_lt tabC_tab (l.take j) 4294967295 (by omega))
        by_cases hlj : j < l.length
        · have hjm : (j : Int) < (m : Int) := by have := N.out; omega
          obtain ⟨b, off, rfl, hb, hc⟩ := HVr.out.at hlj
          have hck := hc j hlj
          have HRT := Lib.hid (runC_take tabC 4294967295 l j hlj)
          generalize l[j] = x at *
          obtain ⟨y2, hy2⟩ : ∃ y2, runC tabC 4294967295 (l.take (j + 1)) = y2 := ⟨_, rfl⟩
          rw [hy2] at HRT
          generalize runC tabC 4294967295 (l.take j) = y1 at *
          have C3 := Lib.hid (fun w => crcstep_any w tabC y1 x tabC_tab HYL.out)
          rw [← HRT.out] at C3
          have HC := Lib.hid (show wr.drew.cell? ⟨b, off + j, none⟩ = some (.int .u8 (x.toNat : Int)) from hck)
          have HBL := Lib.hid (show b < wr.drew.heap.size from hb)
          have HAr := Lib.hid (show ATab wr.drew g tabC from (HA.out.below HB6.out).below HX.out.drew)
          have HXr := Lib.hid (show Below w6.heap.size w6 wr.drew from HX.out.drew)
          have HY2' := Lib.hid hy2
          clear hc hck hb hy2 HX
          go_wp2_with fail
          refine wp_region_R (R := fun x y => Below x.heap.size x y) (by kernel_rfl) (fun _ => Below.refl _ _) (fun h k => h.trans (k.mono h.size)) (by kernel_rfl) (fun d v c a w h => by cases d <;> exact h)
            [(0, false), (1, false), (2, false), (3, false), (4, false), (5, false), (6, true), (7, false)] rfl (by kernel_rfl) (by kernel_rfl) ?_
          simp only [sel, List.getElem?_toArray, List.getElem?_cons_succ, List.getElem?_cons_zero]
          generalize wr.drew = wd at *
          refine sch_take _ rfl (fun u hu => exec_loadTab _ rfl _ rfl (HAr.out.below hu) TC.out) ?_
          simp only [Act.put, List.setIfInBounds_toArray, List.set_cons_zero, List.set_cons_succ]
          iterate 4 (refine sch_take ?_ rfl ?_ ?_; rotate_left; (focus (intro u hu; go_simp <;> rfl)); simp only [Act.put, List.setIfInBounds_toArray, List.set_cons_zero, List.set_cons_succ])
          (refine sch_take ?_ rfl ?_ ?_; rotate_left; (focus (intro u hu; have c := (hu.cell (p := ⟨b, off + j, none⟩) HBL.out).trans HC.out; clear hu; go_simp <;> rfl)); simp only [Act.put, List.setIfInBounds_toArray, List.set_cons_zero, List.set_cons_succ])
          refine sch_call rfl ?_
          intro K hK
          go_simp
          refine (C3.out _).mono ?_
          rintro e y3 ⟨rfl, hb⟩
          go_wp2_with fail
          refine hK _ _ hb ?_
          clear hK K
          have HXr := Lib.hid (HXr.out.trans (hb.mono HXr.out.size))
          clear hb HAr HC HBL
          (refine sch_take ?_ rfl ?_ ?_; rotate_left; (focus (intro u hu; go_simp <;> rfl)); simp only [Act.put, List.setIfInBounds_toArray, List.set_cons_zero, List.set_cons_succ])
          refine sch_nil ?_
          go_wp2_with fail
          go_roundw
          case rel => exact ⟨j + 1, by omega, by go_num, by rw [HY2'.out], HXr.out⟩
          case measure => simp [intOf]; omega
        · have hjm : ¬ (j : Int) < (m : Int) := by have := N.out; omega
          have e : j = l.length := by omega
          have HJ : Hid (l.take j = l) := by rw [e]; exact List.take_length
          rw [HJ.out] at HYL
          rw [HJ.out]
          have hu := u32_plain
          have C4 := c_not _ HYL.out
          rw [← HN3.out] at C4
          generalize runC tabC 4294967295 l = y1 at *
          have HZr := Lib.hid (HO6.out.rowz.below HX.out)
          have HYr := Lib.hid ((HY2.out.below HB3.out).below (HB6.out.trans (HX.out.mono HB6.out.size)))
          have HWr := Lib.hid (HB3.out.trans ((HB6.out.trans (HX.out.mono HB6.out.size)).mono HB3.out.size))
          clear e
          go_wp2_with fail
          refine (HS3.out _ _ HVr.out).mono ?_
          rintro e w8 ⟨rfl, hb8⟩
          have HZ8 := Lib.hid (HZr.out.below hb8)
          have HY8 := Lib.hid (HYr.out.below hb8)
          have HW8 := Lib.hid (HWr.out.trans (hb8.mono HWr.out.size))
          clear hb8
          go_wp2_with fail
          refine (HP3.out _ _ _ HZ8.out HY8.out).mono ?_
          rintro e w9 ⟨rfl, hb9⟩
          have HW9 := Lib.hid (HW8.out.trans (hb9.mono HW8.out.size))
          clear hb9
          go_wp2_with fail
          go_ret
          exact ⟨rfl, HW9.out⟩

theorem walk (w : World) (v : Value) (l : List UInt8) (u : Value) (zs : List Int) (hv : Byt w v l) (hu : Rowz w u (zs.map (Value.int .i64))) :
    Calls Try.prog 5 #[v, u] w fun e w' => e = .returned (.bool true) ∧ Below w.heap.size w w' := by
  by_cases hl : 3000 < l.length
  · exact walk_long w v l u zs hv hu hl
  · by_cases hz : 20 < zs.length
    · exact walk_many w v l u zs hv hu (by omega) hz
    · exact walk_short w v l u zs hv hu (by omega) (by omega)

set_option maxRecDepth 100000 in
theorem lifted (os : Os) (started : os.Started) (H : Type) (enc : TypeId × Value → H) :
    ReturnsInHanded {} Try.checked os 5 .any (Rows.crcPartsSpec.pre6 enc Try.prog Try.f5 Rows.crcPartsRow.domain false) (Rows.crcPartsSpec.post enc Try.prog Try.f5 false true false false) := by
  refine returnsInHanded_of_change (C := Try.checked) ownKnobs started (by kernel_rfl) Try.func5
    (ChangeSpec.witness6 (enc := enc) (C := Try.checked) false ⟨#[], #[.slice none 0 0, .slice none 0 0], []⟩ 8 (by kernel_rfl) (by kernel_rfl) (by kernel_rfl) (by kernel_rfl)) ?_
  intro W base args ds gs before hval0 hW hcnd _
  have hval : ∀ (j : Nat) t v, Try.f5.params[j]? = some t → args[j]? = some v → Value.okWide Try.prog W .any base t v := hval0
  have hW' := hW
  obtain ⟨p, q, hA0, hV, rfl, hfz, hnd⟩ := hW
  have hA : DataW.TrodAll enc Try.prog W 0 (fun _ => true) true Try.f5.params.toList args.toList ds p := hA0
  rw [Try.params5] at hA hval
  obtain ⟨v0, vs0, d0, ds0, p0, q0, hargs, rfl, rfl, h0, r0⟩ := trodAll_cons hA
  obtain ⟨v1, vs1, d1, ds1, p1, q1, rfl, rfl, rfl, h1, r1⟩ := trodAll_cons r0
  obtain ⟨rfl, rfl, rfl⟩ := trodAll_nil r1
  obtain rfl : args = #[v0, v1] := by cases args; simp_all
  obtain ⟨rfl, rfl⟩ := trodVars_none hV
  have k0 := h0
  have lt0 : ∀ x ∈ p0, x.block < W.heap.size := by obtain ⟨m, hm⟩ := k0; exact DataW.trod_lt m _ _ _ hm
  obtain ⟨l0, b0⟩ := open_bytes (hval 0 28 v0 rfl rfl) h0
  have k1 := h1
  have lt1 : ∀ x ∈ p1, x.block < W.heap.size := by obtain ⟨m, hm⟩ := k1; exact DataW.trod_lt m _ _ _ hm
  obtain ⟨l1, b1⟩ := open_introw (hval 1 33 v1 rfl rfl) h1
  clear hA0 hval0
  refine (walk W v0 l0 v1 l1 b0 b1).mono fun e W' ⟨he, bel⟩ => ?_
  subst he
  exact ⟨_, rfl, _, _, _, [], _, [], hW', trodAll_mk1 (shut_bool Try.underlying4 _), (trodAll_cons_mk (Below.trod laidOuts (by kernel_rfl) (of_decide_eq_true (by kernel_rfl)) k0 bel lt0) (trodAll_cons_mk (Below.trod laidOuts (by kernel_rfl) (of_decide_eq_true (by kernel_rfl)) k1 bel lt1) trodAll_mk0)), rfl, bel.frame _, fun h => by cases h⟩

theorem over : Rows.crcPartsRow.holds Try.pinned (OpenSpec.ofChange Rows.crcPartsSpec) :=
  OpenClaim.holds_of_wide 5 Try.f5 rfl rfl rfl rfl rfl rfl rfl ⟨rfl, rfl, rfl, rfl, rfl⟩ rfl rfl rfl rfl rfl (by kernel_rfl) Try.func5 (by kernel_rfl)
    (of_decide_eq_true (by kernel_rfl)) (by unfold Func.isWrapper; first | (rw [if_pos (by decide +kernel)]; kernel_rfl) | (rw [if_neg (by decide +kernel)]; exact ⟨rfl, rfl⟩))
    (fun os started H enc _ => lifted os started H enc)

theorem proved : Rows.CrcPartsSaid := over
#print axioms proved
end Go.Proofs.Ythabjfnaghdenaa.crcParts
