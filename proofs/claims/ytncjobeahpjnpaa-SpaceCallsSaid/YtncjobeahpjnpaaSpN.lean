/-
  tallymankit.Space: whether two spaces are the same. Conditions: none.
-/
import Derived.Test.YtncjobeahpjnpaaSpL
namespace Go.Proofs.Ytncjobeahpjnpaa
open Go.ChangeShapes Go.WideShapes Go.ChangeAt Go.RowKit Go.Maps
set_option maxRecDepth 100000
set_option linter.unusedVariables false
set_option linter.unusedSimpArgs false

def KsRel (w : World) (p : Int) (v x : Value) (l m : List Bool) (i : Value) (u : World) : Prop :=
  ∃ k : Nat, k ≤ l.length ∧ i = .int .i64 (k : Int) ∧ (∀ j, j < k → l[j]? = m[j]?) ∧ SpBox u w.heap.size p v ∧ SpBox u (w.heap.size + 1) p x ∧ Below w.heap.size w u
set_option maxHeartbeats 4000000 in
theorem kitspace_any (w : World) (p q : Int) (v x : Value) (l m : List Bool) (hv : Boos w v l) (hx : Boos w x m) :
    Calls Try.prog 19 #[.agg #[.int .i64 p, v], .agg #[.int .i64 q, x]] w fun e w' => e = .returned (.bool (decide (p = q ∧ l = m))) ∧ Below w.heap.size w w' := by
  obtain ⟨w0, hw0⟩ : ∃ w0, (w.alloc (.cells #[.int .i64 p, v] 24)).alloc (.cells #[.int .i64 q, x] 24) = w0 := ⟨_, rfl⟩
  have hb0 : Below w.heap.size w w0 := hw0 ▸ (below_new w _).trans ((below_new _ _).mono (by simp))
  have hS : SpBox w0 w.heap.size p v := hw0 ▸ (SBox.new w 24 [.int .i64 p, v]).alloc _
  have hT : SpBox w0 (w.heap.size + 1) q x := by
    have := SBox.new (w.alloc (.cells #[.int .i64 p, v] 24)) 24 [.int .i64 q, x]
    rw [World.size_alloc] at this
    exact hw0 ▸ this
  obtain ⟨A, n, c, rfl, N, hnc, hcm⟩ := hv.form
  obtain ⟨A', n', c', rfl, N', hnc', hcm'⟩ := hx.form
  have HV := Lib.hid hv
  have HX := Lib.hid hx
  have HW0 := Lib.hid hw0
  generalize hd : decide (p = q ∧ l = m) = d
  have HD := Lib.hid hd
  have S0 := Lib.hid hS
  have T0 := Lib.hid hT
  have HB0 := Lib.hid hb0
  clear hv hx hd hw0 hb0 hS hT
  by_cases hp : p = q
  · subst hp
    by_cases hl : n = n'
    · subst hl
      have p0 := S0.out.c0
      have p1 := S0.out.c1
      have q0 := T0.out.c0
      have q1 := T0.out.c1
      rw [← HW0.out] at p0 p1 q0 q1
      go_enter Try.func19, Try.ntmps19
      go_wp2_with fail
      rw [HW0.out]
      clear p0 p1 q0 q1
      go_loopw [5] (fun i wr => KsRel w p (.slice A n c) (.slice A' n c') l m i wr) (fun i _ => l.length - (intOf i).toNat)
      case atStart => exact ⟨0, by omega, rfl, fun j hj => by omega, S0.out, T0.out, HB0.out⟩
      case round =>
        obtain ⟨k, hk, rfl, hall, hs, ht, hbel⟩ := hrel
        have HA := Lib.hid hall
        have HB := Lib.hid hbel
        have HS := Lib.hid hs
        have HT := Lib.hid ht
        have r1 := hs.c1
        have r2 := ht.c1
        clear hall hbel hs ht
        have hn := N.out
        have hn' := N'.out
        by_cases hlt : k < l.length
        · obtain ⟨b1, o1, rfl, hb1, hc1⟩ := (HV.out.below HB.out).at hlt
          obtain ⟨b2, o2, rfl, hb2, hc2⟩ := (HX.out.below HB.out).at (show k < m.length by omega)
          have d1 : wr.drew.cell? ⟨b1, o1 + k, none⟩ = some (.bool l[k]) := hc1 k hlt
          have d2 : wr.drew.cell? ⟨b2, o2 + k, none⟩ = some (.bool m[k]) := hc2 k (by omega)
          have e1 : l[k]? = some l[k] := List.getElem?_eq_getElem hlt
          have e2 : m[k]? = some m[k] := List.getElem?_eq_getElem (by omega)
          clear hc1 hc2
          generalize l[k] = y at *
          generalize m[k] = z at *
          have HQ : Hid (l[k]? = some y ∧ m[k]? = some z) := ⟨e1, e2⟩
          have HBD : Hid (Below w.heap.size w wr.drew) := HB.out.drew
          have HSD : Hid (SpBox wr.drew w.heap.size p (.slice (some ⟨b1, o1, none⟩) n c)) := SBox.below HS.out (Below.refl _ wr).drew
          have HTD : Hid (SpBox wr.drew (w.heap.size + 1) p (.slice (some ⟨b2, o2, none⟩) n c')) := SBox.below HT.out (Below.refl _ wr).drew
          have D1 := Lib.hid d1
          have D2 := Lib.hid d2
          have SD := Lib.hid (SpBox.c1 HSD.out)
          have TD := Lib.hid (SpBox.c1 HTD.out)
          have hkn : (k : Int) < (n : Int) := by omega
          clear e1 e2 d1 d2 hn hn'
          go_wp2_with fail
          clear r1 r2
          refine wp_region_R (R := fun x y => x = y) (by kernel_rfl) (fun _ => rfl) (fun h k => h.trans k) (by kernel_rfl) (fun d v c a w h => by cases d <;> exact h)
            [(0, false), (1, false), (2, false), (3, false), (4, false), (5, false), (6, false), (7, false), (8, false), (9, false), (10, false)] rfl (by kernel_rfl) (by kernel_rfl) ?_
          simp only [sel, List.getElem?_toArray, List.getElem?_cons_succ, List.getElem?_cons_zero]
          generalize wr.drew = wd at *
          (refine sch_take ?_ rfl ?_ ?_; rotate_left; (focus (intro u hu; go_simp <;> rfl)); simp only [Act.put, List.setIfInBounds_toArray, List.set_cons_zero, List.set_cons_succ])
          (refine sch_take ?_ rfl ?_ ?_; rotate_left; (focus (intro u hu; subst hu; have c1 := SD.out; go_simp <;> rfl)); simp only [Act.put, List.setIfInBounds_toArray, List.set_cons_zero, List.set_cons_succ])
          iterate 2 (refine sch_take ?_ rfl ?_ ?_; rotate_left; (focus (intro u hu; go_simp <;> rfl)); simp only [Act.put, List.setIfInBounds_toArray, List.set_cons_zero, List.set_cons_succ])
          (refine sch_take ?_ rfl ?_ ?_; rotate_left; (focus (intro u hu; subst hu; have c1 := D1.out; go_simp <;> rfl)); simp only [Act.put, List.setIfInBounds_toArray, List.set_cons_zero, List.set_cons_succ])
          (refine sch_take ?_ rfl ?_ ?_; rotate_left; (focus (intro u hu; go_simp <;> rfl)); simp only [Act.put, List.setIfInBounds_toArray, List.set_cons_zero, List.set_cons_succ])
          (refine sch_take ?_ rfl ?_ ?_; rotate_left; (focus (intro u hu; subst hu; have c1 := TD.out; go_simp <;> rfl)); simp only [Act.put, List.setIfInBounds_toArray, List.set_cons_zero, List.set_cons_succ])
          iterate 2 (refine sch_take ?_ rfl ?_ ?_; rotate_left; (focus (intro u hu; go_simp <;> rfl)); simp only [Act.put, List.setIfInBounds_toArray, List.set_cons_zero, List.set_cons_succ])
          (refine sch_take ?_ rfl ?_ ?_; rotate_left; (focus (intro u hu; subst hu; have c2 := D2.out; go_simp <;> rfl)); simp only [Act.put, List.setIfInBounds_toArray, List.set_cons_zero, List.set_cons_succ])
          (refine sch_take ?_ rfl ?_ ?_; rotate_left; (focus (intro u hu; go_simp <;> rfl)); simp only [Act.put, List.setIfInBounds_toArray, List.set_cons_zero, List.set_cons_succ])
          refine sch_nil ?_
          generalize he : (y == z) = q
          cases q with
          | true =>
            have e : y = z := by simpa using he
            subst e
            have HE := Lib.hid he
            clear he
            go_wp2_with fail
            go_roundw
            case rel =>
              refine ⟨k + 1, by omega, by go_num, fun j hj => ?_, HSD.out, HTD.out, HBD.out⟩
              by_cases e : j = k
              · subst e; rw [HQ.out.1, HQ.out.2]
              · exact HA.out j (by omega)
            case measure => simp [intOf]; omega
          | false =>
            have e : y ≠ z := by simpa using he
            have HE := Lib.hid he
            clear he
            have hf : d = false := by
              rw [← HD.out]
              simp only [decide_eq_false_iff_not]
              rintro ⟨_, rfl⟩
              have := HQ.out
              rw [this.1] at this
              exact e (by simpa using this.2)
            subst hf
            clear e
            go_wp2_with fail
            go_ret
            exact ⟨rfl, HBD.out⟩
        · have hf : d = true := by
            rw [← HD.out]
            simp only [decide_eq_true_eq]
            refine ⟨trivial, ?_⟩
            apply List.ext_getElem?
            intro j
            by_cases hj : j < k
            · exact HA.out j hj
            · rw [List.getElem?_eq_none (by omega), List.getElem?_eq_none (by omega)]
          subst hf
          have hkn : ¬ (k : Int) < (n : Int) := by omega
          clear hn hn'
          go_wp2_with fail
          go_ret
          exact ⟨rfl, HB.out⟩
    · obtain rfl : d = false := by
        rw [← HD.out]
        simp only [decide_eq_false_iff_not]
        rintro ⟨_, rfl⟩
        exact hl (N.out.trans N'.out.symm)
      have hne : ¬ (n : Int) = (n' : Int) := by omega
      go_enter Try.func19, Try.ntmps19
      go_wp2_with fail
      go_ret
      exact ⟨rfl, (below_new w _).trans ((below_new _ _).mono (by simp))⟩
  · obtain rfl : d = false := by
      rw [← HD.out]
      simp only [decide_eq_false_iff_not]
      exact fun h => hp h.1
    go_enter Try.func19, Try.ntmps19
    go_wp2_with fail
    go_ret
    exact ⟨rfl, (below_new w _).trans ((below_new _ _).mono (by simp))⟩
end Go.Proofs.Ytncjobeahpjnpaa
