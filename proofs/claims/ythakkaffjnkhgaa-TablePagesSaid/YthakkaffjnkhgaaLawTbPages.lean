/-
  The statement TablePages: Pages, Find, Get and Count tell the same; a table goes on from Fresh to Fresh. Conditions: none.
-/
import Derived.Test.YthakkaffjnkhgaaTbI
import Derived.Test.YthakkaffjnkhgaaTbJ
namespace Go.Proofs.Ythakkaffjnkhgaa.tablePages
open Go.ChangeShapes Go.WideShapes Go.ChangeAt Go.RowKit Go.Maps
set_option maxRecDepth 100000
set_option linter.unusedVariables false
set_option linter.unusedSimpArgs false

def PgLp (w : World) (A P : Option Addr) (m c n1 c1 : Nat) (zs : List Int) (k i : Value) (wr : World) : Prop :=
  ∃ (n q : Nat), n ≤ zs.length + 2 ∧ k = .int .i64 (q : Int) ∧ i = .int .i64 (n : Int) ∧ q = cntZ zs n ∧ TbBox wr w.heap.size (.slice A m c) ∧ TbIn wr (.slice A m c) zs ∧ Rowz wr (.slice P n1 c1) (intC (zs.filter nzB)) ∧ Below w.heap.size w wr
/-- A row of ints that is kept. -/
def RowH (w : World) (v : Value) (zs : List Int) : Prop := Rowz w v (intC zs)
theorem RowH.below {w w' : World} {v : Value} {zs : List Int} (h : RowH w v zs) (hb : Below w.heap.size w w') : RowH w' v zs := Rowz.below h hb
theorem dec_refl (l : List Int) : decide (l = l) = true := decide_eq_true rfl
set_option maxRecDepth 100000 in
set_option maxHeartbeats 4000000 in
theorem walk_long (w : World) (x0 : Value) (zs : List Int) (a1 : Int) (b0 : Rowz w x0 (intC zs)) (hl : ¬ zs.length ≤ 400) : Calls Try.prog 7 #[.agg #[x0], .int .i64 a1] w fun e w' => e = .returned (.bool true) ∧ Below w.heap.size w w' := by
  obtain ⟨A, m, c, rfl, N, hnc, hcm⟩ := b0.form
  have hm : m = zs.length := b0.lenZ
  obtain ⟨w1, hw1⟩ : ∃ u, w.alloc (.cells #[.slice A m c] 24) = u := ⟨_, rfl⟩
  have HW1 := Lib.hid hw1
  have HB1 : Hid (Below w.heap.size w w1) := hw1 ▸ below_new w _
  have St1 : Hid (TbBox w1 w.heap.size (.slice A m c)) := hw1 ▸ SBox.new w 24 [.slice A m c]
  have hm4 : (400 : Int) < (m : Int) := by omega
  clear b0 hw1 hl hm
  go_enter Try.func7, Try.ntmps7
  go_wp2_with fail
  rw [HW1.out]
  refine (lives10_any w1).mono ?_
  rintro e w2 ⟨rfl, hb2⟩
  have HB2 : Hid (Below w.heap.size w w2) := HB1.out.trans (hb2.mono HB1.out.size)
  have St2 : Hid (TbBox w2 w.heap.size (.slice A m c)) := St1.out.below hb2
  clear hb2
  have pt := St2.out.c0
  go_wp2_with fail
  go_ret
  exact ⟨rfl, HB2.out⟩

set_option maxRecDepth 100000 in
set_option maxHeartbeats 4000000 in
theorem walk_bad (w : World) (x0 : Value) (zs : List Int) (a1 : Int) (b0 : Rowz w x0 (intC zs)) (z0 : inZ zs) (hl : zs.length ≤ 400) (hok : ¬ tbOk zs) : Calls Try.prog 7 #[.agg #[x0], .int .i64 a1] w fun e w' => e = .returned (.bool true) ∧ Below w.heap.size w w' := by
  obtain ⟨A, m, c, rfl, N, hnc, hcm⟩ := b0.form
  have hm : m = zs.length := b0.lenZ
  obtain ⟨w1, hw1⟩ : ∃ u, w.alloc (.cells #[.slice A m c] 24) = u := ⟨_, rfl⟩
  have HW1 := Lib.hid hw1
  have HB1 : Hid (Below w.heap.size w w1) := hw1 ▸ below_new w _
  have St1 : Hid (TbBox w1 w.heap.size (.slice A m c)) := hw1 ▸ SBox.new w 24 [.slice A m c]
  have hm4 : (m : Int) ≤ 400 := by omega
  have Tt1 : Hid (TbIn w1 (.slice A m c) zs) := ⟨b0.below HB1.out, by omega, z0⟩
  have HCK : Hid (chkT zs = 2) := if_neg hok
  clear b0 hw1 hl hm hok
  go_enter Try.func7, Try.ntmps7
  go_wp2_with fail
  rw [HW1.out]
  refine (lives10_any w1).mono ?_
  rintro e w2 ⟨rfl, hb2⟩
  have HB2 : Hid (Below w.heap.size w w2) := HB1.out.trans (hb2.mono HB1.out.size)
  have St2 : Hid (TbBox w2 (w.heap.size) (.slice A m c)) := St1.out.below hb2
  have Tt2 : Hid (TbIn w2 (.slice A m c) (zs)) := Tt1.out.below hb2
  clear hb2
  have pt := St2.out.c0
  go_wp2_with fail
  clear pt
  refine (HCK.out ▸ tcheck_any w2 _ zs Tt2.out).mono ?_
  rintro e w3 ⟨rfl, hb3⟩
  have HB3 : Hid (Below w.heap.size w w3) := HB2.out.trans (hb3.mono HB2.out.size)
  have St3 : Hid (TbBox w3 (w.heap.size) (.slice A m c)) := St2.out.below hb3
  have Tt3 : Hid (TbIn w3 (.slice A m c) (zs)) := Tt2.out.below hb3
  clear hb3
  have pt := St3.out.c0
  go_wp2_with fail
  clear pt
  go_ret
  exact ⟨rfl, HB3.out⟩

set_option maxRecDepth 100000 in
set_option maxHeartbeats 8000000 in
theorem walk_ok (w : World) (x0 : Value) (zs : List Int) (a1 : Int) (b0 : Rowz w x0 (intC zs)) (z0 : inZ zs) (b1 : -9223372036854775808 ≤ a1 ∧ a1 ≤ 9223372036854775807) (hl : zs.length ≤ 400) (hok : tbOk zs) : Calls Try.prog 7 #[.agg #[x0], .int .i64 a1] w fun e w' => e = .returned (.bool true) ∧ Below w.heap.size w w' := by
  obtain ⟨A, m, c, rfl, N, hnc, hcm⟩ := b0.form
  have hm : m = zs.length := b0.lenZ
  obtain ⟨w1, hw1⟩ : ∃ u, w.alloc (.cells #[.slice A m c] 24) = u := ⟨_, rfl⟩
  have HW1 := Lib.hid hw1
  have HB1 : Hid (Below w.heap.size w w1) := hw1 ▸ below_new w _
  have St1 : Hid (TbBox w1 w.heap.size (.slice A m c)) := hw1 ▸ SBox.new w 24 [.slice A m c]
  have hm4 : (m : Int) ≤ 400 := by omega
  have Tt1 : Hid (TbIn w1 (.slice A m c) zs) := ⟨b0.below HB1.out, by omega, z0⟩
  have HCK : Hid (chkT zs = 0) := if_pos hok
  have HPG : Hid (pagesT zs = zs.filter nzB) := if_pos hok
  have HOK := Lib.hid hok
  have HM := Lib.hid hm
  have HL4 := Lib.hid hl
  have HB1' := Lib.hid b1
  clear b0 hw1 hl hm hok b1
  go_enter Try.func7, Try.ntmps7
  go_wp2_with fail
  rw [HW1.out]
  refine (lives10_any w1).mono ?_
  rintro e w2 ⟨rfl, hb2⟩
  have HB2 : Hid (Below w.heap.size w w2) := HB1.out.trans (hb2.mono HB1.out.size)
  have St2 : Hid (TbBox w2 (w.heap.size) (.slice A m c)) := St1.out.below hb2
  have Tt2 : Hid (TbIn w2 (.slice A m c) (zs)) := Tt1.out.below hb2
  clear hb2
  have pt := St2.out.c0
  go_wp2_with fail
  clear pt
  refine (HCK.out ▸ tcheck_any w2 _ zs Tt2.out).mono ?_
  rintro e w3 ⟨rfl, hb3⟩
  have HB3 : Hid (Below w.heap.size w w3) := HB2.out.trans (hb3.mono HB2.out.size)
  have St3 : Hid (TbBox w3 (w.heap.size) (.slice A m c)) := St2.out.below hb3
  have Tt3 : Hid (TbIn w3 (.slice A m c) (zs)) := Tt2.out.below hb3
  clear hb3
  have pt := St3.out.c0
  go_wp2_with fail
  clear pt
  refine (HPG.out ▸ tpages_any w3 _ zs Tt3.out).mono ?_
  rintro e w4 ⟨y4, rfl, hy4, hb4⟩
  obtain ⟨P, n1, c1, rfl, NP, hnp, hcp⟩ := hy4.1.form
  have HB4 : Hid (Below w.heap.size w w4) := HB3.out.trans (hb4.mono HB3.out.size)
  have St4 : Hid (TbBox w4 (w.heap.size) (.slice A m c)) := St3.out.below hb4
  have Tt4 : Hid (TbIn w4 (.slice A m c) (zs)) := Tt3.out.below hb4
  have R4 : Hid (RowH w4 (.slice P n1 c1) (zs.filter nzB)) := hy4.1
  clear hb4
  have pt := St4.out.c0
  go_wp2_with fail
  clear pt
  have hn1 : n1 = (zs.filter nzB).length := R4.out.lenZ
  have HN1 := Lib.hid hn1
  go_loopw [6, 7] (fun k i wr => PgLp w A P m c n1 c1 zs k i wr) (fun k i _ => zs.length + 2 - (intOf i).toNat)
  case atStart => exact ⟨0, 0, by omega, rfl, rfl, (cntZ_zero zs).symm, St4.out, Tt4.out, R4.out, HB4.out⟩
  case round =>
    obtain ⟨n, q, hn, rfl, rfl, hq, hbx, hti, hrw, hbl⟩ := hrel
    have HQ := Lib.hid hq
    have St0 := Lib.hid hbx
    have Tt0 := Lib.hid hti
    have R0 := Lib.hid hrw
    have HB0 := Lib.hid hbl
    have pt := hbx.c0
    have hm4 : (m : Int) ≤ 400 := by have := HM.out; have := HL4.out; omega
    have hn4 : (n : Int) ≤ 402 := by have := HL4.out; omega
    have hq4 : (q : Int) ≤ 400 := by have := cntZ_le zs n; have := HL4.out; omega
    clear hbx hti hrw hbl hn1 hq
    by_cases hlt : n < zs.length + 2
    · have hlt' : (n : Int) < (m : Int) + 2 := by have := HM.out; omega
      have HLT : Hid (n < zs.length + 2) := hlt
      have HGT := Lib.hid (getT_ok HOK.out n)
      have HSC0 : Hid (atZ zs n = 0 → cntZ zs (n + 1) = cntZ zs n) := fun h => by rw [cntZ_succ, if_pos h]; rfl
      have HSC1 : Hid (atZ zs n ≠ 0 → cntZ zs (n + 1) = cntZ zs n + 1) := fun h => by rw [cntZ_succ, if_neg h]
      have HAT : Hid (atZ zs n ≠ 0 → cntZ zs n < (zs.filter nzB).length ∧ atZ (zs.filter nzB) (cntZ zs n) = atZ zs n) := pgs_at
      have HFT : Hid (atZ zs n ≠ 0 → findT zs (atZ zs n) = ((n : Int), true)) := findT_at HOK.out
      have HGO : Hid (getOk zs n = decide (atZ zs n ≠ 0)) := by rw [Hid]; unfold getOk; rw [HGT.out]
      generalize atZ zs n = x at *
      clear hlt hn
      go_wp2_with fail
      by_cases e : x = 0
      · have HS := Lib.hid (HSC0.out e)
        subst e
        have hd : decide ((0 : Int) ≠ 0) = false := by decide
        have hcon : Calls Try.prog 15 #[.agg #[.slice A m c], .int .i64 (n : Int)] wr (NumIs wr 0 false) := by
          have := tget_any wr _ zs (n : Int) Tt0.out
          rw [HGT.out, HGO.out, hd] at this
          exact this
        refine hcon.mono ?_
        rintro e w5 ⟨rfl, hb5⟩
        have HB5 : Hid (Below w.heap.size w w5) := HB0.out.trans (hb5.mono HB0.out.size)
        have St5 : Hid (TbBox w5 w.heap.size (.slice A m c)) := St0.out.below hb5
        have Tt5 : Hid (TbIn w5 (.slice A m c) zs) := Tt0.out.below hb5
        have R5 : Hid (RowH w5 (.slice P n1 c1) (zs.filter nzB)) := RowH.below R0.out hb5
        clear hb5 hcon pt hd
        have pt := St5.out.c0
        go_wp2_with fail
        go_roundw
        case rel => exact ⟨n + 1, q, by have := HLT.out; omega, rfl, by go_num, by rw [HS.out]; exact HQ.out, St5.out, Tt5.out, R5.out, HB5.out⟩
        case measure => have := HLT.out; simp [intOf]; omega
      · have hd : decide (x ≠ 0) = true := decide_eq_true e
        have hcon : Calls Try.prog 15 #[.agg #[.slice A m c], .int .i64 (n : Int)] wr (NumIs wr x true) := by
          have := tget_any wr _ zs (n : Int) Tt0.out
          rw [HGT.out, HGO.out, hd] at this
          exact this
        have HFX := Lib.hid (HFT.out e)
        have HS := Lib.hid (HSC1.out e)
        have HNE : Hid (x ≠ 0) := e
        obtain ⟨ha1, ha2⟩ := HAT.out e
        rw [← HQ.out] at ha1 ha2
        have HA1 := Lib.hid ha1
        have HA2 := Lib.hid ha2
        have hq1 : (q : Int) < (n1 : Int) := by have := HN1.out; omega
        clear e hd ha1 ha2 HAT HFT HSC0 HSC1
        refine hcon.mono ?_
        rintro e w5 ⟨rfl, hb5⟩
        have HB5 : Hid (Below w.heap.size w w5) := HB0.out.trans (hb5.mono HB0.out.size)
        have St5 : Hid (TbBox w5 w.heap.size (.slice A m c)) := St0.out.below hb5
        have Tt5 : Hid (TbIn w5 (.slice A m c) zs) := Tt0.out.below hb5
        have R5 : Hid (RowH w5 (.slice P n1 c1) (zs.filter nzB)) := RowH.below R0.out hb5
        clear hb5 hcon pt
        have pt := St5.out.c0
        go_wp2_with fail
        refine (tfind_any w5 _ zs x Tt5.out).mono ?_
        rintro e w6 ⟨he, hb6⟩
        rw [HFX.out] at he
        subst he
        have HB6 : Hid (Below w.heap.size w w6) := HB5.out.trans (hb6.mono HB5.out.size)
        have St6 : Hid (TbBox w6 w.heap.size (.slice A m c)) := St5.out.below hb6
        have Tt6 : Hid (TbIn w6 (.slice A m c) zs) := Tt5.out.below hb6
        have R6 : Hid (RowH w6 (.slice P n1 c1) (zs.filter nzB)) := R5.out.below hb6
        clear hb6 pt
        have pt := St6.out.c0
        obtain ⟨bp, op, rfl, hbp, hcp⟩ := Rowz.atZ R6.out HA1.out
        rw [HA2.out] at hcp
        go_wp2_with fail
        go_roundw
        case rel => exact ⟨n + 1, q + 1, by have := HLT.out; omega, by go_num, by go_num, by rw [HS.out, HQ.out], St6.out, Tt6.out, R6.out, HB6.out⟩
        case measure => have := HLT.out; simp [intOf]; omega
    · obtain rfl : n = zs.length + 2 := by omega
      have hlt' : ¬ (((zs.length + 2 : Nat) : Int) < (m : Int) + 2) := by have := HM.out; omega
      have HQN : Hid (q = n1) := by rw [Hid, HQ.out, HN1.out]; exact cntZ_all zs _ (by omega)
      clear hlt hn
      obtain rfl : n1 = q := HQN.out.symm
      have hlt'' : ¬ ((m : Int) + 2 < (m : Int) + 2) := by omega
      have hz2 : ((zs.length + 2 : Nat) : Int) = (m : Int) + 2 := by have := HM.out; omega
      generalize wr = w5 at *
      have HB5 := HB0
      have St5 := St0
      have Tt5 := Tt0
      have R5 : Hid (RowH w5 (.slice P n1 c1) (zs.filter nzB)) := R0.out
      obtain ⟨y, hy⟩ : ∃ y, a1 % 4094 = y := ⟨_, rfl⟩
      have hy0 : 0 ≤ y := by rw [← hy]; exact Int.emod_nonneg _ (by omega)
      have hy1 : y < 4094 := by rw [← hy]; exact Int.emod_lt_of_pos _ (by omega)
      have HPK : Hid (∀ W, Calls Try.prog 30 #[.int .i64 a1, .int .i64 4094] W fun e w' => e = .returned (.int .i64 y) ∧ W = w') := fun W => by rw [← hy]; exact pick_any a1 4094 W (by omega) (by omega)
      have HPO : Hid (pgOk (2 + y)) := ⟨by omega, by omega⟩
      have HCN : Hid (((pagesT zs).length : Int) = (n1 : Int)) := by rw [Hid, HPG.out, HN1.out]
      clear HB0 St0 Tt0 R0 hy pt HQ
      rw [hz2]
      clear hz2
      have pt := St5.out.c0
      go_wp2_with fail
      clear pt
      refine (HPK.out w5).mono ?_
      rintro e w5x ⟨rfl, rfl⟩
      have pt := St5.out.c0
      go_wp2_with fail
      clear pt
      refine (HCN.out ▸ tcount_any w5 _ zs Tt5.out).mono ?_
      rintro e w6 ⟨rfl, hb6⟩
      have HB6 : Hid (Below w.heap.size w w6) := HB5.out.trans (hb6.mono HB5.out.size)
      have R6 : Hid (RowH w6 (.slice P n1 c1) (zs.filter nzB)) := R5.out.below hb6
      have St6 : Hid (TbBox w6 (w.heap.size) (.slice A m c)) := St5.out.below hb6
      have Tt6 : Hid (TbIn w6 (.slice A m c) (zs)) := Tt5.out.below hb6
      clear hb6
      have pt := St6.out.c0
      go_wp2_with fail
      clear pt
      by_cases hi : idxZ zs (2 + y) < zs.length
      · have HFI : Hid (findT zs (2 + y) = (((idxZ zs (2 + y) : Nat) : Int), true)) := if_pos ⟨HOK.out, HPO.out, hi⟩
        generalize ((idxZ zs (2 + y) : Nat) : Int) = z at *
        clear hi
        refine (HFI.out ▸ tfind_any w6 _ zs (2 + y) Tt6.out).mono ?_
        rintro e w7 ⟨rfl, hb7⟩
        have HB7 : Hid (Below w.heap.size w w7) := HB6.out.trans (hb7.mono HB6.out.size)
        have R7 : Hid (RowH w7 (.slice P n1 c1) (zs.filter nzB)) := R6.out.below hb7
        have St7 : Hid (TbBox w7 (w.heap.size) (.slice A m c)) := St6.out.below hb7
        have Tt7 : Hid (TbIn w7 (.slice A m c) (zs)) := Tt6.out.below hb7
        clear hb7
        have pt := St7.out.c0
        go_wp2_with fail
        clear pt
        go_ret
        exact ⟨rfl, HB7.out⟩
      · have HFI : Hid (findT zs (2 + y) = (0, false)) := if_neg (fun h => hi h.2.2)
        have HFR : Hid (freshT zs = (((idxZ zs 0 : Nat) : Int), 0)) := freshT_ok HOK.out (by have := HL4.out; omega)
        have hq0 := idxZ_le 0 zs
        have hz0 := idx0_at zs
        have hqe : idxZ zs 0 = idxZ zs 0 := rfl
        have HGT := fun ys => @fresh_gt zs ys (idxZ zs 0) rfl
        generalize idxZ zs 0 = q0 at *
        have HST : Hid (setT zs (q0 : Int) (2 + y) = (setL zs q0 (2 + y), 0)) := setT_ok HOK.out (by have := HL4.out; omega) HPO.out (fun h => hi h.1)
        have HUS : Hid (tbOk (setL zs q0 (2 + y))) := setL_ok HOK.out (by have := HL4.out; omega) HPO.out (fun h => hi h.1)
        have hau : atZ (setL zs q0 (2 + y)) q0 ≠ 0 := by rw [atZ_setL, if_pos rfl]; omega
        have hao : ∀ j, j ≠ q0 → atZ (setL zs q0 (2 + y)) j = atZ zs j := fun j hj => by rw [atZ_setL, if_neg hj]
        have HFU : Hid (freshT (setL zs q0 (2 + y)) = (((idxZ (setL zs q0 (2 + y)) 0 : Nat) : Int), 0)) := freshT_ok HUS.out (by rw [setL_len]; have := HL4.out; omega)
        have hgt : (q0 : Int) < ((idxZ (setL zs q0 (2 + y)) 0 : Nat) : Int) := by have := HGT _ hau hao; omega
        have HCU : Hid (clearT (setL zs q0 (2 + y)) (q0 : Int) = (zs, 0)) := by rw [Hid, clearT_ok HUS.out hau, clear_set HOK.out hz0]
        have HCC : Hid (((pagesT (setL zs q0 (2 + y))).length : Int) = (n1 : Int) + 1) := by
          have h1 : pagesT (setL zs q0 (2 + y)) = (setL zs q0 (2 + y)).filter nzB := if_pos HUS.out
          rw [Hid, h1, pages_more hz0 hau hao, HN1.out]
          omega
        generalize setL zs q0 (2 + y) = us at *
        generalize ((idxZ us 0 : Nat) : Int) = q1 at *
        have hq4 : (q0 : Int) ≤ 400 := by have := HL4.out; omega
        clear hi hq0 hz0 hqe HGT hau hao
        refine (HFI.out ▸ tfind_any w6 _ zs (2 + y) Tt6.out).mono ?_
        rintro e w7 ⟨rfl, hb7⟩
        have HB7 : Hid (Below w.heap.size w w7) := HB6.out.trans (hb7.mono HB6.out.size)
        have R7 : Hid (RowH w7 (.slice P n1 c1) (zs.filter nzB)) := R6.out.below hb7
        have St7 : Hid (TbBox w7 (w.heap.size) (.slice A m c)) := St6.out.below hb7
        have Tt7 : Hid (TbIn w7 (.slice A m c) (zs)) := Tt6.out.below hb7
        clear hb7
        have pt := St7.out.c0
        go_wp2_with fail
        clear pt
        refine (HFR.out ▸ tfresh_any w7 _ zs Tt7.out).mono ?_
        rintro e w8 ⟨rfl, hb8⟩
        have HB8 : Hid (Below w.heap.size w w8) := HB7.out.trans (hb8.mono HB7.out.size)
        have R8 : Hid (RowH w8 (.slice P n1 c1) (zs.filter nzB)) := R7.out.below hb8
        have St8 : Hid (TbBox w8 (w.heap.size) (.slice A m c)) := St7.out.below hb8
        have Tt8 : Hid (TbIn w8 (.slice A m c) (zs)) := Tt7.out.below hb8
        clear hb8
        have pt := St8.out.c0
        go_wp2_with fail
        clear pt
        refine (HST.out ▸ tset_any w8 _ zs (q0 : Int) (2 + y) Tt8.out).mono ?_
        rintro e w9 ⟨x9, rfl, hx9, hb9⟩
        obtain ⟨A9, n9, c9, rfl, N9, _, _⟩ := hx9.1.form
        have HB9 : Hid (Below w.heap.size w w9) := HB8.out.trans (hb9.mono HB8.out.size)
        have R9 : Hid (RowH w9 (.slice P n1 c1) (zs.filter nzB)) := R8.out.below hb9
        have St9 : Hid (TbBox w9 (w.heap.size) (.slice A m c)) := St8.out.below hb9
        have Tt9 : Hid (TbIn w9 (.slice A m c) (zs)) := Tt8.out.below hb9
        obtain ⟨w10, hw10⟩ : ∃ u, (w9.alloc (.cells #[.slice A9 n9 c9] 24)) = u := ⟨_, rfl⟩
        have HW10 := Lib.hid hw10
        have hb10 : Below w9.heap.size w9 w10 := hw10 ▸ below_new _ _
        have HB10 : Hid (Below w.heap.size w w10) := HB9.out.trans (hb10.mono HB9.out.size)
        have R10 : Hid (RowH w10 (.slice P n1 c1) (zs.filter nzB)) := R9.out.below hb10
        have St10 : Hid (TbBox w10 (w.heap.size) (.slice A m c)) := St9.out.below hb10
        have Tt10 : Hid (TbIn w10 (.slice A m c) (zs)) := Tt9.out.below hb10
        have Su10 : Hid (TbBox w10 w9.heap.size (.slice A9 n9 c9)) := hw10 ▸ SBox.new w9 24 [.slice A9 n9 c9]
        have Tu10 : Hid (TbIn w10 (.slice A9 n9 c9) (us)) := tbin_of (hx9.1.below hb10) HUS.out
        clear hx9 hb9 hw10 hb10
        have pt : (w9.alloc (.cells #[.slice A9 n9 c9] 24)).cell? ⟨w.heap.size, 0, none⟩ = some (.slice A m c) := by rw [HW10.out]; exact St10.out.c0
        go_wp2_with fail
        rw [HW10.out]
        clear pt
        refine (HFU.out ▸ tfresh_any w10 _ us Tu10.out).mono ?_
        rintro e w11 ⟨rfl, hb11⟩
        have HB11 : Hid (Below w.heap.size w w11) := HB10.out.trans (hb11.mono HB10.out.size)
        have R11 : Hid (RowH w11 (.slice P n1 c1) (zs.filter nzB)) := R10.out.below hb11
        have St11 : Hid (TbBox w11 (w.heap.size) (.slice A m c)) := St10.out.below hb11
        have Tt11 : Hid (TbIn w11 (.slice A m c) (zs)) := Tt10.out.below hb11
        have Su11 : Hid (TbBox w11 (w9.heap.size) (.slice A9 n9 c9)) := Su10.out.below hb11
        have Tu11 : Hid (TbIn w11 (.slice A9 n9 c9) (us)) := Tu10.out.below hb11
        clear hb11
        have pt := St11.out.c0
        have pu := Su11.out.c0
        go_wp2_with fail
        clear pt pu
        refine (HCU.out ▸ tclear_any w11 _ us (q0 : Int) Tu11.out).mono ?_
        rintro e w12 ⟨x12, rfl, hx12, hb12⟩
        obtain ⟨A12, n12, c12, rfl, N12, _, _⟩ := hx12.1.form
        have HB12 : Hid (Below w.heap.size w w12) := HB11.out.trans (hb12.mono HB11.out.size)
        have R12 : Hid (RowH w12 (.slice P n1 c1) (zs.filter nzB)) := R11.out.below hb12
        have St12 : Hid (TbBox w12 (w.heap.size) (.slice A m c)) := St11.out.below hb12
        have Tt12 : Hid (TbIn w12 (.slice A m c) (zs)) := Tt11.out.below hb12
        have Su12 : Hid (TbBox w12 (w9.heap.size) (.slice A9 n9 c9)) := Su11.out.below hb12
        have Tu12 : Hid (TbIn w12 (.slice A9 n9 c9) (us)) := Tu11.out.below hb12
        obtain ⟨w13, hw13⟩ : ∃ u, (w12.alloc (.cells #[.slice A12 n12 c12] 24)) = u := ⟨_, rfl⟩
        have HW13 := Lib.hid hw13
        have hb13 : Below w12.heap.size w12 w13 := hw13 ▸ below_new _ _
        have HB13 : Hid (Below w.heap.size w w13) := HB12.out.trans (hb13.mono HB12.out.size)
        have R13 : Hid (RowH w13 (.slice P n1 c1) (zs.filter nzB)) := R12.out.below hb13
        have St13 : Hid (TbBox w13 (w.heap.size) (.slice A m c)) := St12.out.below hb13
        have Tt13 : Hid (TbIn w13 (.slice A m c) (zs)) := Tt12.out.below hb13
        have Su13 : Hid (TbBox w13 (w9.heap.size) (.slice A9 n9 c9)) := Su12.out.below hb13
        have Tu13 : Hid (TbIn w13 (.slice A9 n9 c9) (us)) := Tu12.out.below hb13
        have Sv13 : Hid (TbBox w13 w12.heap.size (.slice A12 n12 c12)) := hw13 ▸ SBox.new w12 24 [.slice A12 n12 c12]
        have Tv13 : Hid (TbIn w13 (.slice A12 n12 c12) (zs)) := tbin_of (hx12.1.below hb13) HOK.out
        clear hx12 hb12 hw13 hb13
        have pt : (w12.alloc (.cells #[.slice A12 n12 c12] 24)).cell? ⟨w.heap.size, 0, none⟩ = some (.slice A m c) := by rw [HW13.out]; exact St13.out.c0
        have pu : (w12.alloc (.cells #[.slice A12 n12 c12] 24)).cell? ⟨w9.heap.size, 0, none⟩ = some (.slice A9 n9 c9) := by rw [HW13.out]; exact Su13.out.c0
        go_wp2_with fail
        rw [HW13.out]
        clear pt pu
        refine (HCC.out ▸ tcount_any w13 _ us Tu13.out).mono ?_
        rintro e w14 ⟨rfl, hb14⟩
        have HB14 : Hid (Below w.heap.size w w14) := HB13.out.trans (hb14.mono HB13.out.size)
        have R14 : Hid (RowH w14 (.slice P n1 c1) (zs.filter nzB)) := R13.out.below hb14
        have St14 : Hid (TbBox w14 (w.heap.size) (.slice A m c)) := St13.out.below hb14
        have Tt14 : Hid (TbIn w14 (.slice A m c) (zs)) := Tt13.out.below hb14
        have Su14 : Hid (TbBox w14 (w9.heap.size) (.slice A9 n9 c9)) := Su13.out.below hb14
        have Tu14 : Hid (TbIn w14 (.slice A9 n9 c9) (us)) := Tu13.out.below hb14
        have Sv14 : Hid (TbBox w14 (w12.heap.size) (.slice A12 n12 c12)) := Sv13.out.below hb14
        have Tv14 : Hid (TbIn w14 (.slice A12 n12 c12) (zs)) := Tv13.out.below hb14
        clear hb14
        have pt := St14.out.c0
        have pu := Su14.out.c0
        have pv := Sv14.out.c0
        go_wp2_with fail
        clear pt pu pv
        refine (dec_refl zs ▸ zints_any w14 _ _ zs zs Tv14.out.row Tt14.out.row).mono ?_
        rintro e w15 ⟨rfl, hb15⟩
        have HB15 : Hid (Below w.heap.size w w15) := HB14.out.trans (hb15.mono HB14.out.size)
        have R15 : Hid (RowH w15 (.slice P n1 c1) (zs.filter nzB)) := R14.out.below hb15
        have St15 : Hid (TbBox w15 (w.heap.size) (.slice A m c)) := St14.out.below hb15
        have Tt15 : Hid (TbIn w15 (.slice A m c) (zs)) := Tt14.out.below hb15
        have Su15 : Hid (TbBox w15 (w9.heap.size) (.slice A9 n9 c9)) := Su14.out.below hb15
        have Tu15 : Hid (TbIn w15 (.slice A9 n9 c9) (us)) := Tu14.out.below hb15
        have Sv15 : Hid (TbBox w15 (w12.heap.size) (.slice A12 n12 c12)) := Sv14.out.below hb15
        have Tv15 : Hid (TbIn w15 (.slice A12 n12 c12) (zs)) := Tv14.out.below hb15
        clear hb15
        have pt := St15.out.c0
        have pu := Su15.out.c0
        have pv := Sv15.out.c0
        go_wp2_with fail
        clear pt pu pv
        go_ret
        exact ⟨rfl, HB15.out⟩

theorem walk (w : World) (x0 : Value) (zs : List Int) (a1 : Int) (b0 : Rowz w x0 (intC zs)) (z0 : inZ zs) (b1 : -9223372036854775808 ≤ a1 ∧ a1 ≤ 9223372036854775807) : Calls Try.prog 7 #[.agg #[x0], .int .i64 a1] w fun e w' => e = .returned (.bool true) ∧ Below w.heap.size w w' := by
  by_cases hl : zs.length ≤ 400
  · by_cases hok : tbOk zs
    · exact walk_ok w x0 zs a1 b0 z0 b1 hl hok
    · exact walk_bad w x0 zs a1 b0 z0 hl hok
  · exact walk_long w x0 zs a1 b0 hl

set_option maxRecDepth 100000 in
theorem lifted (os : Os) (started : os.Started) (H : Type) (enc : TypeId × Value → H) :
    ReturnsInHanded {} Try.checked os 7 .any (Rows.tablePagesSpec.pre6 enc Try.prog Try.f7 Rows.tablePagesRow.domain false) (Rows.tablePagesSpec.post enc Try.prog Try.f7 false true false false) := by
  refine returnsInHanded_of_change (C := Try.checked) ownKnobs started (by kernel_rfl) Try.func7
    (ChangeSpec.witness6 (enc := enc) (C := Try.checked) false ⟨#[], #[.agg #[.slice none 0 0], .int .i64 0], []⟩ 8 (by kernel_rfl) (by kernel_rfl) (by kernel_rfl) (by kernel_rfl)) ?_
  intro W base args ds gs before hval0 hW hcnd _
  have hval : ∀ (j : Nat) t v, Try.f7.params[j]? = some t → args[j]? = some v → Value.okWide Try.prog W .any base t v := hval0
  have hW' := hW
  obtain ⟨p, q, hA0, hV, rfl, hfz, hnd⟩ := hW
  have hA : DataW.TrodAll enc Try.prog W 0 (fun _ => true) true Try.f7.params.toList args.toList ds p := hA0
  rw [Try.params7] at hA hval
  obtain ⟨v0, vs0, d0, ds0, p0, q0, hargs, rfl, rfl, h0, r0⟩ := trodAll_cons hA
  obtain ⟨v1, vs1, d1, ds1, p1, q1, rfl, rfl, rfl, h1, r1⟩ := trodAll_cons r0
  obtain ⟨rfl, rfl, rfl⟩ := trodAll_nil r1
  obtain rfl : args = #[v0, v1] := by cases args; simp_all
  obtain ⟨rfl, rfl⟩ := trodVars_none hV
  have k0 := h0
  have lt0 : ∀ x ∈ p0, x.block < W.heap.size := by obtain ⟨m, hm⟩ := k0; exact DataW.trod_lt m _ _ _ hm
  obtain ⟨x0, zs0, rfl, b0, zb0⟩ := open_table (hval 0 24 v0 rfl rfl) h0
  obtain ⟨a1, rfl, rfl, rfl, w1⟩ := open_int Try.underlying3 (hval 1 3 v1 rfl rfl) h1
  have b1 := open_i64 w1
  clear hA0 hval0
  refine (walk W x0 zs0 a1 b0 zb0 b1).mono fun e W' ⟨he, bel⟩ => ?_
  subst he
  exact ⟨_, rfl, _, _, _, [], _, [], hW', trodAll_mk1 (shut_bool Try.underlying4 _), (trodAll_cons_mk (Below.trod laidOuts (by kernel_rfl) (of_decide_eq_true (by kernel_rfl)) k0 bel lt0) (trodAll_cons_mk (shut_int Try.underlying3 w1) trodAll_mk0)), rfl, bel.frame _, fun h => by cases h⟩

theorem over : Rows.tablePagesRow.holds Try.pinned (OpenSpec.ofChange Rows.tablePagesSpec) :=
  OpenClaim.holds_of_wide 7 Try.f7 rfl rfl rfl rfl rfl rfl rfl ⟨rfl, rfl, rfl, rfl, rfl⟩ rfl rfl rfl rfl rfl (by kernel_rfl) Try.func7 (by kernel_rfl)
    (of_decide_eq_true (by kernel_rfl)) (by unfold Func.isWrapper; first | (rw [if_pos (by decide +kernel)]; kernel_rfl) | (rw [if_neg (by decide +kernel)]; exact ⟨rfl, rfl⟩))
    (fun os started H enc _ => lifted os started H enc)

theorem proved : Rows.TablePagesSaid := over
#print axioms proved
end Go.Proofs.Ythakkaffjnkhgaa.tablePages

