/-
  Package table's Check, stands, Get, Find, Fresh by their contracts. Conditions: lists of at most 65536 ints of 64 bits.
-/
import Derived.Test.YthakkaffjnkhgaaTbC
namespace Go.Proofs.Ythakkaffjnkhgaa
open Go.RowKit Go.Maps
set_option maxRecDepth 100000
set_option linter.unusedVariables false
set_option linter.unusedSimpArgs false

/-- A box of a table. -/
abbrev TbBox (w : World) (g : Nat) (v : Value) : Prop := SBox w g 24 [v]
theorem TbBox.c0 {w : World} {g : Nat} {v : Value} (h : TbBox w g v) : w.cell? ⟨g, 0, none⟩ = some v := h.cell 0 _ rfl
theorem tbInfo : (Try.prog.info? 24).map (·.size) = some 1 := by kernel_rfl
theorem one_tb (A : Option Addr) (n c : Nat) : ∀ u ∈ [Value.slice A n c], u.oneCell' = true := by
  intro u hu
  simp at hu
  subst hu
  rfl
/-- What is asked of a table that is handed on. -/
structure TbIn (w : World) (v : Value) (zs : List Int) : Prop where
  row : Rowz w v (intC zs)
  len : zs.length ≤ 65536
  inz : inZ zs
theorem TbIn.below {w w' : World} {v : Value} {zs : List Int} (h : TbIn w v zs) (hb : Below w.heap.size w w') : TbIn w' v zs := ⟨h.row.below hb, h.len, h.inz⟩
def chkT (zs : List Int) : Int := if tbOk zs then 0 else 2
set_option maxHeartbeats 2000000 in
theorem tcheck_any (w : World) (v : Value) (zs : List Int) (h : TbIn w v zs) :
    Calls Try.prog 14 #[.agg #[v]] w fun e w' => e = .returned (.int .i64 (chkT zs)) ∧ Below w.heap.size w w' := by
  obtain ⟨hv, hlen, hin⟩ := h
  obtain ⟨A, n, c, rfl, N, hnc, hcm⟩ := hv.form
  obtain ⟨w0, hw0⟩ : ∃ w0, w.alloc (.cells #[.slice A n c] 24) = w0 := ⟨_, rfl⟩
  have HX0 : Hid (TbBox w0 w.heap.size (.slice A n c)) := hw0 ▸ SBox.new w 24 [.slice A n c]
  have HB0 : Hid (Below w.heap.size w w0) := hw0 ▸ below_new w _
  have HW0 := Lib.hid hw0
  have HV := Lib.hid hv
  have HL := Lib.hid hlen
  have HI := Lib.hid hin
  have hn : n = zs.length := hv.lenZ
  have HN := Lib.hid hn
  have hn6 : (n : Int) ≤ 65536 := by omega
  have hn6' : ¬ (65536 : Int) < (n : Int) := by omega
  obtain ⟨m, hm⟩ : ∃ m, (trimL zs).length = m := ⟨_, rfl⟩
  have HM : Hid (m = trimN zs) := hm.symm.trans (trimL_len zs)
  have HM2 := Lib.hid hm
  by_cases ht : m < n
  · have hr : chkT zs = 2 := if_neg (fun h => by have := h.2.1; have := HM.out; omega)
    have hmn : (m : Int) < (n : Int) := by omega
    rw [hr]
    clear hv hlen hin hn hw0 hm ht hr
    go_enter Try.func14, Try.ntmps14
    go_wp2_with fail
    rw [HW0.out]
    refine wp_region_R (R := fun x y => Below x.heap.size x y) (by kernel_rfl) (fun _ => Below.refl _ _) (fun h k => h.trans (k.mono h.size)) (by kernel_rfl) (fun d v c a w h => by cases d <;> exact h)
      [(0, false), (1, false), (2, false), (3, false), (6, false), (7, false), (8, false), (4, true), (5, false), (9, false), (10, false), (11, false), (12, false), (13, false), (14, true), (15, false), (16, false)] rfl (by kernel_rfl) (by kernel_rfl) ?_
    simp only [sel, List.getElem?_toArray, List.getElem?_cons_succ, List.getElem?_cons_zero]
    have HBD : Hid (Below w.heap.size w w0.drew) := HB0.out.drew
    have HBX : Hid (TbBox w0.drew w.heap.size (.slice A n c)) := HX0.out
    generalize w0.drew = wd at *
    iterate 3 (refine sch_take ?_ rfl ?_ ?_; rotate_left; (focus (intro u hu; go_simp <;> rfl)); simp only [Act.put, List.setIfInBounds_toArray, List.set_cons_zero, List.set_cons_succ])
    (refine sch_take ?_ rfl ?_ ?_; rotate_left; (focus (intro u hu; have c1 := TbBox.c0 (SBox.below HBX.out hu); clear hu; go_simp <;> rfl)); simp only [Act.put, List.setIfInBounds_toArray, List.set_cons_zero, List.set_cons_succ])
    (refine sch_take ?_ rfl ?_ ?_; rotate_left; (focus (intro u hu; go_simp <;> rfl)); simp only [Act.put, List.setIfInBounds_toArray, List.set_cons_zero, List.set_cons_succ])
    (refine sch_take ?_ rfl ?_ ?_; rotate_left; (focus (intro u hu; have c1 := TbBox.c0 (SBox.below HBX.out hu); clear hu; go_simp <;> rfl)); simp only [Act.put, List.setIfInBounds_toArray, List.set_cons_zero, List.set_cons_succ])
    (refine sch_take ?_ rfl ?_ ?_; rotate_left; (focus (intro u hu; go_simp <;> rfl)); simp only [Act.put, List.setIfInBounds_toArray, List.set_cons_zero, List.set_cons_succ])
    refine sch_call rfl ?_
    intro K hK
    go_simp
    refine (ttrim_any _ _ zs (HV.out.below HBD.out) (by have := HL.out; omega)).mono ?_
    rintro e w3 ⟨x, rfl, rfl, hx3, _, Ax, cx, rfl⟩
    rw [HM2.out]
    go_wp2_with fail
    refine hK _ _ (Below.refl _ _) ?_
    clear hK K
    clear hx3
    iterate 4 (refine sch_take ?_ rfl ?_ ?_; rotate_left; (focus (intro u hu; go_simp <;> rfl)); simp only [Act.put, List.setIfInBounds_toArray, List.set_cons_zero, List.set_cons_succ])
    refine sch_idle rfl ?_
    simp only [Act.put, List.setIfInBounds_toArray, List.set_cons_zero, List.set_cons_succ]
    refine sch_idle rfl ?_
    simp only [Act.put, List.setIfInBounds_toArray, List.set_cons_zero, List.set_cons_succ]
    refine sch_idleC rfl ?_
    simp only [Act.put, List.setIfInBounds_toArray, List.set_cons_zero, List.set_cons_succ]
    refine sch_idle rfl ?_
    simp only [Act.put, List.setIfInBounds_toArray, List.set_cons_zero, List.set_cons_succ]
    (refine sch_take ?_ rfl ?_ ?_; rotate_left; (focus (intro u hu; go_simp <;> rfl)); simp only [Act.put, List.setIfInBounds_toArray, List.set_cons_zero, List.set_cons_succ])
    refine sch_nil ?_
    go_wp2_with fail
    go_ret
    exact ⟨rfl, HBD.out⟩
  · have hmn : ¬ (m : Int) < (n : Int) := by omega
    have HMN : Hid (decide (m < n) = false) := decide_eq_false ht
    have hr : chkT zs = if decide (standZ zs) then 0 else 2 := by
      unfold chkT
      have e : tbOk zs ↔ standZ zs := ⟨fun h => h.2.2, fun h => ⟨hlen, by have := trimN_le zs; have := HM.out; omega, h⟩⟩
      by_cases h : standZ zs
      · rw [if_pos (e.2 h), decide_eq_true h, if_pos rfl]
      · rw [if_neg (fun h' => h (e.1 h')), decide_eq_false h, if_neg (by simp)]
    rw [hr]
    generalize hd : decide (standZ zs) = d
    have HD := Lib.hid hd
    clear hv hlen hin hn hw0 hm ht hr hd
    cases d
    all_goals
      go_enter Try.func14, Try.ntmps14
      go_wp2_with fail
      rw [HW0.out]
      refine wp_region_R (R := fun x y => Below x.heap.size x y) (by kernel_rfl) (fun _ => Below.refl _ _) (fun h k => h.trans (k.mono h.size)) (by kernel_rfl) (fun d v c a w h => by cases d <;> exact h)
        [(0, false), (1, false), (2, false), (3, false), (6, false), (7, false), (8, false), (4, true), (5, false), (9, false), (10, false), (11, false), (12, false), (13, false), (14, true), (15, false), (16, false)] rfl (by kernel_rfl) (by kernel_rfl) ?_
      simp only [sel, List.getElem?_toArray, List.getElem?_cons_succ, List.getElem?_cons_zero]
      have HBD : Hid (Below w.heap.size w w0.drew) := HB0.out.drew
      have HBX : Hid (TbBox w0.drew w.heap.size (.slice A n c)) := HX0.out
      generalize w0.drew = wd at *
      iterate 3 (refine sch_take ?_ rfl ?_ ?_; rotate_left; (focus (intro u hu; go_simp <;> rfl)); simp only [Act.put, List.setIfInBounds_toArray, List.set_cons_zero, List.set_cons_succ])
      (refine sch_take ?_ rfl ?_ ?_; rotate_left; (focus (intro u hu; have c1 := TbBox.c0 (SBox.below HBX.out hu); clear hu; go_simp <;> rfl)); simp only [Act.put, List.setIfInBounds_toArray, List.set_cons_zero, List.set_cons_succ])
      (refine sch_take ?_ rfl ?_ ?_; rotate_left; (focus (intro u hu; go_simp <;> rfl)); simp only [Act.put, List.setIfInBounds_toArray, List.set_cons_zero, List.set_cons_succ])
      (refine sch_take ?_ rfl ?_ ?_; rotate_left; (focus (intro u hu; have c1 := TbBox.c0 (SBox.below HBX.out hu); clear hu; go_simp <;> rfl)); simp only [Act.put, List.setIfInBounds_toArray, List.set_cons_zero, List.set_cons_succ])
      (refine sch_take ?_ rfl ?_ ?_; rotate_left; (focus (intro u hu; go_simp <;> rfl)); simp only [Act.put, List.setIfInBounds_toArray, List.set_cons_zero, List.set_cons_succ])
      refine sch_call rfl ?_
      intro K hK
      go_simp
      refine (ttrim_any _ _ zs (HV.out.below HBD.out) (by have := HL.out; omega)).mono ?_
      rintro e w3 ⟨x, rfl, rfl, hx3, _, Ax, cx, rfl⟩
      rw [HM2.out]
      go_wp2_with fail
      refine hK _ _ (Below.refl _ _) ?_
      clear hK K
      clear hx3
      (refine sch_take ?_ rfl ?_ ?_; rotate_left; (focus (intro u hu; go_simp <;> rfl)); simp only [Act.put, List.setIfInBounds_toArray, List.set_cons_zero, List.set_cons_succ])
      (refine sch_take ?_ rfl ?_ ?_; rotate_left; (focus (intro u hu; have h9 := HMN.out; go_simp <;> rfl)); simp only [Act.put, List.setIfInBounds_toArray, List.set_cons_zero, List.set_cons_succ])
      iterate 3 (refine sch_take ?_ rfl ?_ ?_; rotate_left; (focus (intro u hu; go_simp <;> rfl)); simp only [Act.put, List.setIfInBounds_toArray, List.set_cons_zero, List.set_cons_succ])
      (refine sch_take ?_ rfl ?_ ?_; rotate_left; (focus (intro u hu; have c1 := TbBox.c0 (SBox.below HBX.out hu); clear hu; go_simp <;> rfl)); simp only [Act.put, List.setIfInBounds_toArray, List.set_cons_zero, List.set_cons_succ])
      refine sch_call rfl ?_
      intro K hK
      go_simp
      refine (tmay_any _ _ zs (HV.out.below HBD.out) (by have := HL.out; omega) HI.out).mono ?_
      rw [HD.out]
      rintro e w3 ⟨rfl, hb3⟩
      go_wp2_with fail
      refine hK _ _ hb3 ?_
      clear hK K
      have HB3 := Lib.hid hb3
      clear hb3
      iterate 2 (refine sch_take ?_ rfl ?_ ?_; rotate_left; (focus (intro u hu; go_simp <;> rfl)); simp only [Act.put, List.setIfInBounds_toArray, List.set_cons_zero, List.set_cons_succ])
      refine sch_nil ?_
      go_wp2_with fail
      go_ret
      exact ⟨rfl, HBD.out.trans (HB3.out.mono HBD.out.size)⟩

/-! stands. -/
set_option maxHeartbeats 1000000 in
theorem tstands_any (w : World) (v : Value) (zs : List Int) (n : Int) (h : TbIn w v zs) :
    Calls Try.prog 33 #[.agg #[v], .int .i64 n] w fun e w' => e = .returned (.bool (decide (0 ≤ n ∧ atZ zs n.toNat ≠ 0))) ∧ Below w.heap.size w w' := by
  obtain ⟨hv, hlen, hin⟩ := h
  obtain ⟨A, m, c, rfl, N, hnc, hcm⟩ := hv.form
  have HV := Lib.hid hv
  have hn : m = zs.length := hv.lenZ
  generalize hd : decide (0 ≤ n ∧ atZ zs n.toNat ≠ 0) = d
  by_cases h0 : 0 ≤ n
  · by_cases h1 : n < (m : Int)
    · obtain ⟨j, rfl⟩ := Int.eq_ofNat_of_zero_le h0
      rw [Int.toNat_natCast] at hd
      obtain ⟨b, off, rfl, hb, hc⟩ := (HV.out.below (below_new w (.cells #[.slice A m c] 24))).atZ (k := j) (by omega)
      generalize atZ zs j = x at *
      by_cases e : x = 0
      · subst e
        obtain rfl : d = false := by rw [← hd]; simp
        clear hv hlen hin hn hd h0
        go_enter Try.func33, Try.ntmps33
        go_wp2_with fail
        go_ret
        exact ⟨rfl, below_new w _⟩
      · obtain rfl : d = true := by rw [← hd]; simp [e]
        have he : (x != 0) = true := by simpa using e
        clear hv hlen hin hn hd h0 e
        go_enter Try.func33, Try.ntmps33
        go_wp2_with fail
        go_ret
        exact ⟨rfl, below_new w _⟩
    · obtain rfl : d = false := by
        rw [← hd]
        simp only [decide_eq_false_iff_not]
        exact fun h => h.2 (atZ_ge (by omega))
      clear hv hlen hin hn hd
      go_enter Try.func33, Try.ntmps33
      go_wp2_with fail
      go_ret
      exact ⟨rfl, below_new w _⟩
  · obtain rfl : d = false := by rw [← hd]; simp [h0]
    clear hv hlen hin hn hd
    go_enter Try.func33, Try.ntmps33
    go_wp2_with fail
    go_ret
    exact ⟨rfl, below_new w _⟩

/-! Get. -/
def getOk (zs : List Int) (n : Int) : Bool := decide (getT zs n ≠ 0)
/-- What a call that answers a number and whether there is one leaves. -/
def NumIs (w : World) (x : Int) (b : Bool) (e : Ending) (w' : World) : Prop := e = .returned (.tuple #[.int .i64 x, .bool b]) ∧ Below w.heap.size w w'
set_option maxHeartbeats 1000000 in
theorem tget_any (w : World) (v : Value) (zs : List Int) (n : Int) (h : TbIn w v zs) :
    Calls Try.prog 15 #[.agg #[v], .int .i64 n] w (NumIs w (getT zs n) (getOk zs n)) := by
  have H := Lib.hid h
  obtain ⟨A, m, c, rfl, N, hnc, hcm⟩ := h.row.form
  obtain ⟨w0, hw0⟩ : ∃ w0, w.alloc (.cells #[.slice A m c] 24) = w0 := ⟨_, rfl⟩
  have HX0 : Hid (TbBox w0 w.heap.size (.slice A m c)) := hw0 ▸ SBox.new w 24 [.slice A m c]
  have HB0 : Hid (Below w.heap.size w w0) := hw0 ▸ below_new w _
  have HW0 := Lib.hid hw0
  have hn : m = zs.length := h.row.lenZ
  have HCK := Lib.hid (tcheck_any w0 _ zs (H.out.below HB0.out))
  have HST := Lib.hid fun w1 (hb : Below w.heap.size w w1) => tstands_any w1 _ zs n (H.out.below hb)
  generalize hg : getT zs n = g
  generalize ho : getOk zs n = o
  have ho' : o = decide (g ≠ 0) := by rw [← ho, ← hg]; rfl
  unfold chkT at HCK
  by_cases hok : tbOk zs
  · rw [if_pos hok] at HCK
    by_cases hs : 0 ≤ n ∧ atZ zs n.toNat ≠ 0
    · rw [decide_eq_true hs] at HST
      obtain ⟨j, rfl⟩ := Int.eq_ofNat_of_zero_le hs.1
      rw [Int.toNat_natCast] at hs
      have hg' : g = atZ zs j := by rw [← hg]; unfold getT; rw [if_pos ⟨hok, hs.1⟩, Int.toNat_natCast]
      obtain rfl : o = true := by rw [ho', hg']; exact decide_eq_true hs.2
      have hjl := atZ_in hs.2
      have hjm : (j : Int) < (m : Int) := by omega
      have HC := Lib.hid fun w1 (hb : Below w.heap.size w w1) => (H.out.row.below hb).atZ (k := j) hjl
      rw [← hg'] at HC
      clear h hn hw0 hok hs ho' hg' hjl hg ho
      go_enter Try.func15, Try.ntmps15
      go_wp2_with fail
      rw [HW0.out]
      have c1 := HX0.out.c0
      go_wp2_with fail
      refine HCK.out.mono ?_
      rintro e w1 ⟨rfl, hb1⟩
      have HX1 : Hid (TbBox w1 w.heap.size (.slice A m c)) := HX0.out.below hb1
      have HB1 : Hid (Below w.heap.size w w1) := HB0.out.trans (hb1.mono HB0.out.size)
      clear hb1 c1
      have c1 := HX1.out.c0
      go_wp2_with fail
      refine (HST.out w1 HB1.out).mono ?_
      rintro e w2 ⟨rfl, hb2⟩
      have HX2 : Hid (TbBox w2 w.heap.size (.slice A m c)) := HX1.out.below hb2
      have HB2 : Hid (Below w.heap.size w w2) := HB1.out.trans (hb2.mono HB1.out.size)
      clear hb2 c1
      have c1 := HX2.out.c0
      obtain ⟨b, off, rfl, hb, hc⟩ := HC.out w2 HB2.out
      go_wp2_with fail
      go_ret2
      exact ⟨rfl, HB2.out⟩
    · rw [decide_eq_false hs] at HST
      have hg' : g = 0 := by
        rw [← hg]
        unfold getT
        by_cases h : tbOk zs ∧ 0 ≤ n
        · rw [if_pos h]
          exact Classical.byContradiction fun hne => hs ⟨h.2, hne⟩
        · rw [if_neg h]
      subst hg'
      obtain rfl : o = false := by rw [ho']; simp
      clear h hn hw0 hok hs ho' hg ho
      go_enter Try.func15, Try.ntmps15
      go_wp2_with fail
      rw [HW0.out]
      have c1 := HX0.out.c0
      go_wp2_with fail
      refine HCK.out.mono ?_
      rintro e w1 ⟨rfl, hb1⟩
      have HX1 : Hid (TbBox w1 w.heap.size (.slice A m c)) := HX0.out.below hb1
      have HB1 : Hid (Below w.heap.size w w1) := HB0.out.trans (hb1.mono HB0.out.size)
      clear hb1 c1
      have c1 := HX1.out.c0
      go_wp2_with fail
      refine (HST.out w1 HB1.out).mono ?_
      rintro e w2 ⟨rfl, hb2⟩
      have HB2 : Hid (Below w.heap.size w w2) := HB1.out.trans (hb2.mono HB1.out.size)
      clear hb2 c1
      go_wp2_with fail
      go_ret2
      exact ⟨rfl, HB2.out⟩
  · rw [if_neg hok] at HCK
    have hg' : g = 0 := by
      rw [← hg]
      unfold getT
      rw [if_neg (fun h => hok h.1)]
    subst hg'
    obtain rfl : o = false := by rw [ho']; simp
    clear h hn hw0 hok ho' hg ho
    go_enter Try.func15, Try.ntmps15
    go_wp2_with fail
    rw [HW0.out]
    have c1 := HX0.out.c0
    go_wp2_with fail
    refine HCK.out.mono ?_
    rintro e w1 ⟨rfl, hb1⟩
    have HB1 : Hid (Below w.heap.size w w1) := HB0.out.trans (hb1.mono HB0.out.size)
    clear hb1 c1
    go_wp2_with fail
    go_ret2
    exact ⟨rfl, HB1.out⟩
end Go.Proofs.Ythakkaffjnkhgaa
