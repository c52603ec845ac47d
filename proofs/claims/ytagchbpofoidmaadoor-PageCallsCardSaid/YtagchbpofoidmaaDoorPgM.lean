/-
  The document's pages (tallymanref05): Same; tallymankit.Page. By their contracts. Conditions: none.
-/
import Derived.Test.YtagchbpofoidmaaDoorPgL
namespace Go.Proofs.YtagchbpofoidmaaDoor
open Go.RowKit Go.Maps
set_option maxRecDepth 100000

theorem getDn {l : List UInt8} {i : Nat} (h : l.length ≤ i) : l.getD i 0 = 0 := by rw [List.getD_eq_getElem?_getD, List.getElem?_eq_none h]; rfl
def SameRel (l l' : List UInt8) (i : Value) : Prop := ∃ k : Nat, k ≤ max l.length l'.length ∧ i = .int .i64 (k : Int) ∧ ∀ j, j < k → l.getD j 0 = l'.getD j 0
set_option maxRecDepth 100000 in
set_option maxHeartbeats 4000000 in
theorem r5same_any (w : World) (kd n kd' n' : Int) (va vb : Value) (l l' : List UInt8) (hva : Byt w va l) (hvb : Byt w vb l') :
    Calls Tryd.prog 18 #[.agg (pageV kd n va), .agg (pageV kd' n' vb)] w (BoolB w (decide (kd = kd' ∧ n = n' ∧ trimR l = trimR l'))) := by
  obtain ⟨r, hr⟩ : ∃ r, r = decide (kd = kd' ∧ n = n' ∧ trimR l = trimR l') := ⟨_, rfl⟩
  rw [← hr]
  have HRR := Lib.hid hr
  clear hr
  obtain ⟨A1, m1, c1, rfl, N1, hnc1, hcm1⟩ := hva.form
  obtain ⟨A2, m2, c2, rfl, N2, hnc2, hcm2⟩ := hvb.form
  obtain ⟨w1, hw1⟩ : ∃ w1, w1 = w.alloc (.cells (pageV kd n (.slice A1 m1 c1)) 28) := ⟨_, rfl⟩
  obtain ⟨w2, hw2⟩ : ∃ w2, w2 = w1.alloc (.cells (pageV kd' n' (.slice A2 m2 c2)) 28) := ⟨_, rfl⟩
  have hb1 : Below w.heap.size w w1 := hw1 ▸ below_new w _
  have hb2 : Below w1.heap.size w1 w2 := hw2 ▸ below_new w1 _
  have HB : Hid (Below w.heap.size w w2) := hb1.trans (hb2.mono hb1.size)
  have HXA : Hid (Box w2 w.heap.size kd n (.slice A1 m1 c1)) := (hw1 ▸ Box.new w kd n (.slice A1 m1 c1) : Box w1 _ _ _ _).below hb2
  have HXB : Hid (Box w2 (w.heap.size + 1) kd' n' (.slice A2 m2 c2)) := by
    have : Box w2 w1.heap.size kd' n' (.slice A2 m2 c2) := hw2 ▸ Box.new w1 kd' n' (.slice A2 m2 c2)
    rw [show w1.heap.size = w.heap.size + 1 by rw [hw1]; simp] at this
    exact this
  have HVA : Hid (Byt w2 (.slice A1 m1 c1) l) := hva.below HB.out
  have HVB : Hid (Byt w2 (.slice A2 m2 c2) l') := hvb.below HB.out
  have HW2 : Hid ((w.alloc (.cells (pageV kd n (.slice A1 m1 c1)) 28)).alloc (.cells (pageV kd' n' (.slice A2 m2 c2)) 28) = w2) := by rw [Hid, hw2, hw1]
  clear hva hvb hb1 hb2 hw1 hw2
  unfold pageV at HW2 ⊢
  go_enter Tryd.func18, Tryd.ntmps18
  go_wp2_with fail
  rw [HW2.out]
  go_loop [5] (fun i => SameRel l l' i) (fun i => max l.length l'.length - (intOf i).toNat)
  case atStart => exact ⟨0, by omega, rfl, fun j hj => by omega⟩
  case round =>
    obtain ⟨k, hk, rfl, hj⟩ := hrel
    have HJ := Lib.hid hj
    clear hj
    by_cases h1 : k < l.length
    · by_cases h2 : k < l'.length
      · obtain ⟨b1, off1, rfl, _, hc1⟩ := HVA.out.at (k := k) h1
        have q1 := hc1 k h1
        rw [(getDb h1).symm] at q1
        have g1 : (k : Int) < (m1 : Int) := by have := N1.out; omega
        clear hc1
        obtain ⟨b2, off2, rfl, _, hc2⟩ := HVB.out.at (k := k) h2
        have q2 := hc2 k h2
        rw [(getDb h2).symm] at q2
        have g2 : (k : Int) < (m2 : Int) := by have := N2.out; omega
        clear hc2
        obtain ⟨d0, d1, d2⟩ := HXA.out.cells
        obtain ⟨e0, e1, e2⟩ := HXB.out.cells
        by_cases hxy : l.getD k 0 = l'.getD k 0
        · have HXY := Lib.hid hxy
          rw [hxy] at q1
          clear hxy
          generalize (l'.getD k 0).toNat = y at *
          go_wp2_with fail
          go_round
          case rel => exact ⟨k + 1, by omega, by go_num, fun j hj => (by
            by_cases e : j = k
            · rw [e]; exact HXY.out
            · exact HJ.out j (by omega))⟩
          case measure => simp [intOf]; omega
        · have HD : Hid (decide (kd = kd' ∧ n = n' ∧ trimR l = trimR l') = false) := by
            rw [Hid]
            simp only [decide_eq_false_iff_not]
            rintro ⟨_, _, h⟩
            exact hxy ((trimR_iff l l').1 h k)
          have hne : (((l.getD k 0).toNat : Int) != ((l'.getD k 0).toNat : Int)) = true := by
            have : (l.getD k 0).toNat ≠ (l'.getD k 0).toNat := fun e => hxy (UInt8.toNat_inj.1 e)
            simp only [bne, beq_eq_false_iff_ne, Bool.not_eq_true', ne_eq]
            omega
          clear hxy
          generalize (l.getD k 0).toNat = x at *
          generalize (l'.getD k 0).toNat = y at *
          go_wp2_with fail
          go_ret
          rw [HRR.out, HD.out]
          exact ⟨rfl, HB.out⟩
      · obtain ⟨b1, off1, rfl, _, hc1⟩ := HVA.out.at (k := k) h1
        have q1 := hc1 k h1
        rw [(getDb h1).symm] at q1
        have g1 : (k : Int) < (m1 : Int) := by have := N1.out; omega
        clear hc1
        have g2 : ¬ (k : Int) < (m2 : Int) := by have := N2.out; omega
        have z2 : l'.getD k 0 = 0 := getDn (by omega)
        obtain ⟨d0, d1, d2⟩ := HXA.out.cells
        obtain ⟨e0, e1, e2⟩ := HXB.out.cells
        by_cases hxy : l.getD k 0 = l'.getD k 0
        · have HXY := Lib.hid hxy
          rw [hxy, z2] at q1
          have hz0 : ((0 : UInt8).toNat : Int) = 0 := rfl
          rw [hz0] at q1
          clear hxy z2
          go_wp2_with fail
          go_round
          case rel => exact ⟨k + 1, by omega, by go_num, fun j hj => (by
            by_cases e : j = k
            · rw [e]; exact HXY.out
            · exact HJ.out j (by omega))⟩
          case measure => simp [intOf]; omega
        · have HD : Hid (decide (kd = kd' ∧ n = n' ∧ trimR l = trimR l') = false) := by
            rw [Hid]
            simp only [decide_eq_false_iff_not]
            rintro ⟨_, _, h⟩
            exact hxy ((trimR_iff l l').1 h k)
          have hne : (((l.getD k 0).toNat : Int) != 0) = true := by
            have : (l.getD k 0).toNat ≠ 0 := fun e => hxy (by rw [z2]; exact UInt8.toNat_inj.1 e)
            simp only [bne, beq_eq_false_iff_ne, Bool.not_eq_true', ne_eq]
            omega
          clear hxy z2
          generalize (l.getD k 0).toNat = x at *
          go_wp2_with fail
          go_ret
          rw [HRR.out, HD.out]
          exact ⟨rfl, HB.out⟩
    · by_cases h2 : k < l'.length
      · have g1 : ¬ (k : Int) < (m1 : Int) := by have := N1.out; omega
        have z1 : l.getD k 0 = 0 := getDn (by omega)
        obtain ⟨b2, off2, rfl, _, hc2⟩ := HVB.out.at (k := k) h2
        have q2 := hc2 k h2
        rw [(getDb h2).symm] at q2
        have g2 : (k : Int) < (m2 : Int) := by have := N2.out; omega
        clear hc2
        obtain ⟨d0, d1, d2⟩ := HXA.out.cells
        obtain ⟨e0, e1, e2⟩ := HXB.out.cells
        by_cases hxy : l.getD k 0 = l'.getD k 0
        · have HXY := Lib.hid hxy
          rw [← hxy, z1] at q2
          have hz0 : ((0 : UInt8).toNat : Int) = 0 := rfl
          rw [hz0] at q2
          clear hxy z1
          go_wp2_with fail
          go_round
          case rel => exact ⟨k + 1, by omega, by go_num, fun j hj => (by
            by_cases e : j = k
            · rw [e]; exact HXY.out
            · exact HJ.out j (by omega))⟩
          case measure => simp [intOf]; omega
        · have HD : Hid (decide (kd = kd' ∧ n = n' ∧ trimR l = trimR l') = false) := by
            rw [Hid]
            simp only [decide_eq_false_iff_not]
            rintro ⟨_, _, h⟩
            exact hxy ((trimR_iff l l').1 h k)
          have hne : ((0 : Int) != ((l'.getD k 0).toNat : Int)) = true := by
            have : (l'.getD k 0).toNat ≠ 0 := fun e => hxy (by rw [z1]; exact (UInt8.toNat_inj.1 e).symm)
            simp only [bne, beq_eq_false_iff_ne, Bool.not_eq_true', ne_eq]
            omega
          clear hxy z1
          generalize (l'.getD k 0).toNat = y at *
          go_wp2_with fail
          go_ret
          rw [HRR.out, HD.out]
          exact ⟨rfl, HB.out⟩
      · have g1 : ¬ (k : Int) < (m1 : Int) := by have := N1.out; omega
        have g2 : ¬ (k : Int) < (m2 : Int) := by have := N2.out; omega
        obtain ⟨d0, d1, d2⟩ := HXA.out.cells
        obtain ⟨e0, e1, e2⟩ := HXB.out.cells
        have HT : Hid (trimR l = trimR l') := (trimR_iff l l').2 (fun j => by
          by_cases e : j < k
          · exact HJ.out j e
          · have a1 : l.getD j 0 = 0 := getDn (by omega)
            have a2 : l'.getD j 0 = 0 := getDn (by omega)
            rw [a1, a2])
        by_cases hkd : kd = kd'
        · subst hkd
          by_cases hn : n = n'
          · subst hn
            have HD : Hid (decide (kd = kd ∧ n = n ∧ trimR l = trimR l') = true) := by rw [Hid]; simp [HT.out]
            go_wp2_with fail
            go_ret
            rw [HRR.out, HD.out]
            exact ⟨rfl, HB.out⟩
          · have HD : Hid (decide (kd = kd ∧ n = n' ∧ trimR l = trimR l') = false) := by rw [Hid]; simp [hn]
            have hne : (n == n') = false := by simp; exact hn
            clear hn
            go_wp2_with fail
            go_ret
            rw [HRR.out, HD.out]
            exact ⟨rfl, HB.out⟩
        · have HD : Hid (decide (kd = kd' ∧ n = n' ∧ trimR l = trimR l') = false) := by rw [Hid]; simp [hkd]
          have hne : (kd == kd') = false := by simp; exact hkd
          clear hkd
          go_wp2_with fail
          go_ret
          rw [HRR.out, HD.out]
          exact ⟨rfl, HB.out⟩
set_option maxHeartbeats 2000000 in
theorem kitpage_any (w : World) (kd n kd' n' : Int) (va vb : Value) (l l' : List UInt8) (hva : Byt w va l) (hvb : Byt w vb l') :
    Calls Tryd.prog 24 #[.agg (pageV kd n va), .agg (pageV kd' n' vb)] w (BoolB w (decide (kd = kd' ∧ n = n' ∧ l = l'))) := by
  obtain ⟨r, hr⟩ : ∃ r, r = decide (kd = kd' ∧ n = n' ∧ l = l') := ⟨_, rfl⟩
  rw [← hr]
  have HRR := Lib.hid hr
  clear hr
  obtain ⟨A1, m1, c1, rfl, N1, hnc1, hcm1⟩ := hva.form
  obtain ⟨A2, m2, c2, rfl, N2, hnc2, hcm2⟩ := hvb.form
  obtain ⟨w1, hw1⟩ : ∃ w1, w1 = w.alloc (.cells (pageV kd n (.slice A1 m1 c1)) 28) := ⟨_, rfl⟩
  obtain ⟨w2, hw2⟩ : ∃ w2, w2 = w1.alloc (.cells (pageV kd' n' (.slice A2 m2 c2)) 28) := ⟨_, rfl⟩
  have hb1 : Below w.heap.size w w1 := hw1 ▸ below_new w _
  have hb2 : Below w1.heap.size w1 w2 := hw2 ▸ below_new w1 _
  have HB : Hid (Below w.heap.size w w2) := hb1.trans (hb2.mono hb1.size)
  have HXA : Hid (Box w2 w.heap.size kd n (.slice A1 m1 c1)) := (hw1 ▸ Box.new w kd n (.slice A1 m1 c1) : Box w1 _ _ _ _).below hb2
  have HXB : Hid (Box w2 (w.heap.size + 1) kd' n' (.slice A2 m2 c2)) := by
    have : Box w2 w1.heap.size kd' n' (.slice A2 m2 c2) := hw2 ▸ Box.new w1 kd' n' (.slice A2 m2 c2)
    rw [show w1.heap.size = w.heap.size + 1 by rw [hw1]; simp] at this
    exact this
  have HVA : Hid (Byt w2 (.slice A1 m1 c1) l) := hva.below HB.out
  have HVB : Hid (Byt w2 (.slice A2 m2 c2) l') := hvb.below HB.out
  have HW2 : Hid ((w.alloc (.cells (pageV kd n (.slice A1 m1 c1)) 28)).alloc (.cells (pageV kd' n' (.slice A2 m2 c2)) 28) = w2) := by rw [Hid, hw2, hw1]
  clear hva hvb hb1 hb2 hw1 hw2
  unfold pageV at HW2 ⊢
  obtain ⟨d0, d1, d2⟩ := HXA.out.cells
  obtain ⟨e0, e1, e2⟩ := HXB.out.cells
  rw [← HW2.out] at d0 d1 d2 e0 e1 e2
  have T1 := text_of HVA.out
  have T2 := text_of HVB.out
  rw [← HW2.out] at T1 T2
  have E := Lib.hid (bytes_eq l l')
  by_cases hkd : kd = kd'
  · subst hkd
    by_cases hn : n = n'
    · subst hn
      have HD : Hid (decide (kd = kd ∧ n = n ∧ l = l') = decide (l = l')) := by rw [Hid]; simp
      generalize (⟨l.toArray⟩ : ByteArray) = s1 at *
      generalize (⟨l'.toArray⟩ : ByteArray) = s2 at *
      obtain ⟨bq, HQ⟩ : ∃ bq, Hid (decide (l = l') = bq) := ⟨_, rfl⟩
      have E' := E.out.trans HQ.out
      go_enter Tryd.func24, Tryd.ntmps24
      go_wp2_with fail
      go_ret
      rw [HRR.out, HD.out, HQ.out, HW2.out]
      exact ⟨rfl, HB.out⟩
    · have HD : Hid (decide (kd = kd ∧ n = n' ∧ l = l') = false) := by rw [Hid]; simp [hn]
      have hne : (n == n') = false := by simp; exact hn
      clear hn
      go_enter Tryd.func24, Tryd.ntmps24
      go_wp2_with fail
      go_ret
      rw [HRR.out, HD.out, HW2.out]
      exact ⟨rfl, HB.out⟩
  · have HD : Hid (decide (kd = kd' ∧ n = n' ∧ l = l') = false) := by rw [Hid]; simp [hkd]
    have hne : (kd == kd') = false := by simp; exact hkd
    clear hkd
    go_enter Tryd.func24, Tryd.ntmps24
    go_wp2_with fail
    go_ret
    rw [HRR.out, HD.out, HW2.out]
    exact ⟨rfl, HB.out⟩
end Go.Proofs.YtagchbpofoidmaaDoor
