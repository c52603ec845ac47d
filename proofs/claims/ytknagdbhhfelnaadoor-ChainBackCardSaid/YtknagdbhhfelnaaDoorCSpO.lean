/-
  tallymankit.Ints: whether two lists of numbers are the same. Conditions: none.
-/
import Derived.Test.YtknagdbhhfelnaaDoorCRowV
import Derived.Test.YtknagdbhhfelnaaDoorMg1
namespace Go.Proofs.YtknagdbhhfelnaaDoor
open Go.ChangeShapes Go.WideShapes Go.ChangeAt Go.RowKit Go.Maps
set_option maxRecDepth 100000
set_option linter.unusedVariables false
set_option linter.unusedSimpArgs false

def KiRel (w : World) (l m : List Nat) (i : Value) (u : World) : Prop :=
  ∃ k : Nat, k ≤ l.length ∧ i = .int .i64 (k : Int) ∧ (∀ j, j < k → l[j]? = m[j]?) ∧ Below w.heap.size w u
set_option maxHeartbeats 4000000 in
theorem kitints_any (w : World) (v x : Value) (l m : List Nat) (hv : Rowz w v (natC l)) (hx : Rowz w x (natC m)) :
    Calls Tryd.prog 16 #[v, x] w fun e w' => e = .returned (.bool (decide (l = m))) ∧ Below w.heap.size w w' := by
  obtain ⟨A, n, c, rfl, N0, hnc, hcm⟩ := hv.form
  obtain ⟨A', n', c', rfl, N0', hnc', hcm'⟩ := hx.form
  have N : Hid (n = l.length) := N0.out.trans (natC_len l)
  have N' : Hid (n' = m.length) := N0'.out.trans (natC_len m)
  have HV := Lib.hid hv
  have HX := Lib.hid hx
  generalize hd : decide (l = m) = d
  have HD := Lib.hid hd
  clear hv hx hd N0 N0'
  by_cases hl : n = n'
  · subst hl
    go_enter Tryd.func16, Tryd.ntmps16
    go_wp2_with fail
    go_loopw [5] (fun i wr => KiRel w l m i wr) (fun i _ => l.length - (intOf i).toNat)
    case atStart => exact ⟨0, by omega, rfl, fun j hj => by omega, Below.refl _ _⟩
    case round =>
      obtain ⟨k, hk, rfl, hall, hbel⟩ := hrel
      have HA := Lib.hid hall
      have HB := Lib.hid hbel
      clear hall hbel
      have hn := N.out
      have hn' := N'.out
      by_cases hlt : k < l.length
      · obtain ⟨b1, o1, rfl, hb1, hc1⟩ := (HV.out.below HB.out).at (k := k) (by rw [natC_len]; exact hlt)
        obtain ⟨b2, o2, rfl, hb2, hc2⟩ := (HX.out.below HB.out).at (k := k) (by rw [natC_len]; omega)
        have d1 : wr.drew.cell? ⟨b1, o1 + k, none⟩ = some (.int .i64 (l[k] : Int)) := (hc1 k (by rw [natC_len]; exact hlt)).trans (by rw [natC_getAt])
        have d2 : wr.drew.cell? ⟨b2, o2 + k, none⟩ = some (.int .i64 (m[k] : Int)) := (hc2 k (by rw [natC_len]; omega)).trans (by rw [natC_getAt])
        have e1 : l[k]? = some l[k] := List.getElem?_eq_getElem hlt
        have e2 : m[k]? = some m[k] := List.getElem?_eq_getElem (by omega)
        clear hc1 hc2
        generalize l[k] = y at *
        generalize m[k] = z at *
        have HQ : Hid (l[k]? = some y ∧ m[k]? = some z) := ⟨e1, e2⟩
        have HBD : Hid (Below w.heap.size w wr.drew) := HB.out.drew
        have D1 := Lib.hid d1
        have D2 := Lib.hid d2
        have hkn : (k : Int) < (n : Int) := by omega
        clear e1 e2 d1 d2 hn hn'
        go_wp2_with fail
        refine wp_region_R (R := fun x y => x = y) (by kernel_rfl) (fun _ => rfl) (fun h k => h.trans k) (by kernel_rfl) (fun d v c a w h => by cases d <;> exact h)
          [(0, false), (1, false), (2, false), (3, false), (4, false), (5, false), (6, false), (7, false), (8, false)] rfl (by kernel_rfl) (by kernel_rfl) ?_
        simp only [sel, List.getElem?_toArray, List.getElem?_cons_succ, List.getElem?_cons_zero]
        generalize wr.drew = wd at *
        iterate 3 (refine sch_take ?_ rfl ?_ ?_; rotate_left; (focus (intro u hu; go_simp <;> rfl)); simp only [Act.put, List.setIfInBounds_toArray, List.set_cons_zero, List.set_cons_succ])
        (refine sch_take ?_ rfl ?_ ?_; rotate_left; (focus (intro u hu; subst hu; have c1 := D1.out; go_simp <;> rfl)); simp only [Act.put, List.setIfInBounds_toArray, List.set_cons_zero, List.set_cons_succ])
        iterate 3 (refine sch_take ?_ rfl ?_ ?_; rotate_left; (focus (intro u hu; go_simp <;> rfl)); simp only [Act.put, List.setIfInBounds_toArray, List.set_cons_zero, List.set_cons_succ])
        (refine sch_take ?_ rfl ?_ ?_; rotate_left; (focus (intro u hu; subst hu; have c2 := D2.out; go_simp <;> rfl)); simp only [Act.put, List.setIfInBounds_toArray, List.set_cons_zero, List.set_cons_succ])
        (refine sch_take ?_ rfl ?_ ?_; rotate_left; (focus (intro u hu; go_simp <;> rfl)); simp only [Act.put, List.setIfInBounds_toArray, List.set_cons_zero, List.set_cons_succ])
        refine sch_nil ?_
        by_cases e : y = z
        · subst e
          go_wp2_with fail
          go_roundw
          case rel =>
            refine ⟨k + 1, by omega, by go_num, fun j hj => ?_, HBD.out⟩
            by_cases e : j = k
            · subst e; rw [HQ.out.1, HQ.out.2]
            · exact HA.out j (by omega)
          case measure => simp [intOf]; omega
        · have hf : d = false := by
            rw [← HD.out]
            simp only [decide_eq_false_iff_not]
            rintro rfl
            have := HQ.out
            rw [this.1] at this
            exact e (by simpa using this.2)
          subst hf
          have hyz : ¬ (y : Int) = (z : Int) := by omega
          go_wp2_with fail
          go_ret
          exact ⟨rfl, HBD.out⟩
      · have hf : d = true := by
          rw [← HD.out]
          simp only [decide_eq_true_eq]
          apply List.ext_getElem?
          intro j
          by_cases hj : j < k
          · exact HA.out j hj
          · rw [List.getElem?_eq_none (by omega), List.getElem?_eq_none (by omega)]
        subst hf
        have hkn : ¬ (k : Int) < (n : Int) := by omega
        clear hn hn'
        go_wp2_with fail
        go_ret
        exact ⟨rfl, HB.out⟩
  · obtain rfl : d = false := by
      rw [← HD.out]
      simp only [decide_eq_false_iff_not]
      rintro rfl
      exact hl (N.out.trans N'.out.symm)
    have hne : ¬ (n : Int) = (n' : Int) := by omega
    go_enter Tryd.func16, Tryd.ntmps16
    go_wp2_with fail
    go_ret
    exact ⟨rfl, Below.refl _ _⟩
end Go.Proofs.YtknagdbhhfelnaaDoor
