/-
  tallymanref10's Check, Get, Find, Fresh by their contracts. Conditions: lists of at most 65536 ints of 64 bits (Fresh: fewer).
-/
import Derived.Test.YthakkaffjnkhgaaTbL
namespace Go.Proofs.Ythakkaffjnkhgaa
open Go.RowKit Go.Maps
set_option maxRecDepth 100000
set_option linter.unusedVariables false
set_option linter.unusedSimpArgs false

theorem MapZ.lookrun {w : World} {g m k : Nat} {f : Int → Option Int} (h : MapZ w g m f k) {z : Int} (hz : -9223372036854775808 ≤ z ∧ z ≤ 9223372036854775807) (r : Option Int) (hr : f z = r) :
    (Instr.lookup 45 (.map (some g)) (.int .i64 z) false).run Try.prog w = .ok (.int .i64 (r.getD 0)) w := by
  obtain ⟨D, hown, _, _, hh, hat⟩ := h
  obtain ⟨c, hrun, hc, _⟩ := hown.lookup_int intKeyedZ mapUnderZ Try.underlying3 (zeroIntZ w) (keyOfZ hz)
  have h1 := hh z
  rw [hr] at h1
  have : c = r.getD 0 := by
    cases r with
    | none => rw [atKey_of_not_has h1] at hc; injection hc with hc; injection hc with _ hc; exact hc.symm
    | some y => rw [hat z y hr] at hc; injection hc with hc; injection hc with _ hc; exact hc.symm
  rw [← this]
  exact hrun
/-- What the document's Check has seen. -/
def seenF (zs : List Int) (k : Nat) : Int → Option Int := fun z => if ∃ i, i < k ∧ atZ zs i = z then some 1 else none
theorem seenF_succ (zs : List Int) (k : Nat) (z : Int) : seenF zs (k + 1) z = if z = atZ zs k then some 1 else seenF zs k z := by
  unfold seenF
  by_cases e : z = atZ zs k
  · rw [if_pos e, if_pos ⟨k, by omega, e.symm⟩]
  · rw [if_neg e]
    by_cases h : ∃ i, i < k ∧ atZ zs i = z
    · obtain ⟨i, hi, hz⟩ := h
      rw [if_pos ⟨i, by omega, hz⟩, if_pos ⟨i, hi, hz⟩]
    · rw [if_neg h, if_neg]
      rintro ⟨i, hi, hz⟩
      by_cases ei : i = k
      · subst ei; exact e hz.symm
      · exact h ⟨i, by omega, hz⟩
def CkRel (w : World) (g0 g1 : Nat) (v : Value) (zs : List Int) (i : Value) (wr : World) : Prop :=
  ∃ k c : Nat, k ≤ zs.length ∧ i = .int .i64 (k : Int) ∧ standK zs k ∧ MapZ wr g1 k (seenF zs k) c ∧ TbBox wr g0 v ∧ Below w.heap.size w wr
theorem ck_start (w : World) (v : Value) : ∃ w0, (w.alloc (.cells #[v] 24)).alloc (.map #[] 0) = w0 ∧ Below w.heap.size w w0 ∧ TbBox w0 w.heap.size v ∧ MapZ w0 (w.heap.size + 1) 0 (seenF [] 0) 0 ∧ ∀ zs, seenF zs 0 = seenF [] 0 := by
  have ea : ∀ zs, seenF zs 0 = fun _ => none := fun zs => funext fun z => by
    unfold seenF
    exact if_neg (fun ⟨i, hi, _⟩ => absurd hi (Nat.not_lt_zero i))
  refine ⟨_, rfl, (below_new w _).trans ((below_new _ _).mono (by simp)), (SBox.new w 24 [v]).alloc _, ?_, fun zs => by rw [ea, ea]⟩
  have := MapZ.made (w.alloc (.cells #[v] 24))
  rw [World.size_alloc] at this
  rw [ea]
  exact this
set_option maxRecDepth 100000 in
set_option maxHeartbeats 4000000 in
theorem rcheck_any (w : World) (v : Value) (zs : List Int) (h : TbIn w v zs) :
    Calls Try.prog 27 #[.agg #[v]] w fun e w' => e = .returned (.int .i64 (chkT zs)) ∧ Below w.heap.size w w' := by
  have H := Lib.hid h
  obtain ⟨A, m, c, rfl, N, hnc, hcm⟩ := h.row.form
  have hn : m = zs.length := h.row.lenZ
  have HN := Lib.hid hn
  have hmm := run_makeZ
  have hm6 : ¬ (65536 : Int) < (m : Int) := by have := h.len; omega
  have hm6' : (m : Int) ≤ 65536 := by omega
  generalize hd : chkT zs = d
  have HD := Lib.hid hd
  obtain ⟨w0, hw0, hb0, hx0, hmz, hse⟩ := ck_start w (.slice A m c)
  have HW0 := Lib.hid hw0
  have HX0 := Lib.hid hx0
  have HMZ : Hid (MapZ w0 (w.heap.size + 1) 0 (seenF zs 0) 0) := by rw [Hid, hse zs]; exact hmz
  have HB0 := Lib.hid hb0
  by_cases h0 : (0 : Int) < (m : Int)
  · obtain ⟨b, off, rfl, hb, hc⟩ := (H.out.row.below (below_new w (.cells #[.slice A m c] 24))).atZ (k := zs.length - 1) (by omega)
    have hm0 : (m : Int) = ((zs.length - 1 : Nat) : Int) + 1 := by omega
    rw [show off + (zs.length - 1) = off + (m - 1) by omega] at hc
    have HLA : Hid (atZ zs (m - 1) = atZ zs (zs.length - 1)) := by rw [Hid, hn]
    by_cases e : atZ zs (zs.length - 1) = 0
    · have hd2 : d = 2 := by
        rw [← hd]
        refine if_neg (fun hok => ?_)
        have := trimN_last zs (by have := hok.2.1; omega)
        rw [hok.2.1] at this
        exact this e
      subst hd2
      rw [e] at hc
      clear h hn hd hw0 hb0 hx0 hmz hse e hm0
      go_enter Try.func27, Try.ntmps27
      go_wp2_with fail
      go_ret
      exact ⟨rfl, below_new w _⟩
    · have hla : (atZ zs (zs.length - 1) == 0) = false := by simpa using e
      have HTR : Hid (trimN zs = zs.length) := by
        refine trimN_is zs _ (Nat.le_refl _) (fun j hj => atZ_ge hj) (fun _ => e)
      generalize atZ zs (zs.length - 1) = la at *
      clear h hn hd hw0 hb0 hx0 hmz hse e hm0
      go_enter Try.func27, Try.ntmps27
      go_wp2_with fail
      rw [HW0.out]
      go_loopw [5] (fun i wr => CkRel w w.heap.size (w.heap.size + 1) (.slice (some ⟨b, off, none⟩) m c) zs i wr) (fun i _ => zs.length - (intOf i).toNat)
      case atStart => exact ⟨0, 0, by omega, rfl, (fun j hj => absurd hj (Nat.not_lt_zero j)), HMZ.out, HX0.out, HB0.out⟩
      case round =>
        obtain ⟨k, cc, hk, rfl, hst, hma, hbx, hbl⟩ := hrel
        have HST := Lib.hid hst
        have HMA := Lib.hid hma
        have HBX := Lib.hid hbx
        have HBL := Lib.hid hbl
        have c1 := HBX.out.c0
        clear hst hma hbx hbl
        by_cases hlt : k < zs.length
        · have hkm : (k : Int) < (m : Int) := by have := HN.out; omega
          have HLT : Hid (k < zs.length) := hlt
          obtain ⟨bk, ok, ek, hbk, hck⟩ := (H.out.row.below HBL.out).atZ hlt
          injection ek with ek
          injection ek with ek1 ek2
          subst ek1 ek2
          have HRG := Lib.hid (H.out.inz k)
          have HSU := Lib.hid (seenF_succ zs k)
          have HSK := Lib.hid (standK_succ zs k)
          generalize hx : atZ zs k = x at *
          have HX := Lib.hid hx
          clear hx hlt
          have HF : Hid (¬ (x = 0 ∨ (2 ≤ x ∧ x < 4096) ∧ ∀ i, i < k → atZ zs i ≠ x) → d = 2) := by
            intro hno
            rw [← HD.out]
            refine if_neg (fun hok => hno ?_)
            have := hok.2.2 k HLT.out
            rw [HX.out] at this
            exact this
          by_cases hgood : x = 0 ∨ (2 ≤ x ∧ x < 4096) ∧ ∀ i, i < k → atZ zs i ≠ x
          · have HGOOD := Lib.hid hgood
            have hlk : x ≠ 0 → (Instr.lookup 45 (.map (some (w.heap.size + 1))) (.int .i64 x) false).run Try.prog wr = .ok (.int .i64 0) wr := fun hx0 => HMA.out.lookrun HRG.out none (if_neg (fun ⟨i, hi, e⟩ => (hgood.elim (fun h => absurd h hx0) (fun h => h.2 i hi e))))
            by_cases hx0 : x = 0
            · subst hx0
              clear hgood hlk
              go_wp2_with (at_mapUpdate; refine wpList_putZ rfl (.tmp 52) (.tmp 53) (.const (.int .i64 1)) rfl HMA.out rfl 0 1 rfl rfl (by omega) (by omega) (by have := HLT.out; have := H.out.len; unfold maxLen; omega) ?_; intro w5 hm5 hg5; have HM5 := Lib.hid hm5; have HX5 : Hid (TbBox w5 w.heap.size (.slice (some ⟨b, off, none⟩) m c)) := HBX.out.grown hg5 (by omega); have HB5 : Hid (Below w.heap.size w w5) := HBL.out.grown hg5 HBL.out.size (fun k e => by cases e; omega); clear hm5 hg5)
              go_roundw
              case rel => exact ⟨k + 1, _, by have := HLT.out; omega, by have := HLT.out; have := H.out.len; go_num, HSK.out.2 ⟨HST.out, HGOOD.out⟩, HM5.out.same HSU.out, HX5.out, HB5.out⟩
              case measure => have := HLT.out; simp [intOf]; omega
            · have hlk' := hlk hx0
              have hp := hgood.elim (fun h => absurd h hx0) (fun h => h.1)
              obtain ⟨hp1, hp2⟩ := hp
              have hne : (x != 0) = true := by simpa using hx0
              clear hgood hlk hx0
              go_wp2_with (at_mapUpdate; refine wpList_putZ rfl (.tmp 52) (.tmp 53) (.const (.int .i64 1)) rfl HMA.out rfl x 1 rfl rfl (by omega) (by omega) (by have := HLT.out; have := H.out.len; unfold maxLen; omega) ?_; intro w5 hm5 hg5; have HM5 := Lib.hid hm5; have HX5 : Hid (TbBox w5 w.heap.size (.slice (some ⟨b, off, none⟩) m c)) := HBX.out.grown hg5 (by omega); have HB5 : Hid (Below w.heap.size w w5) := HBL.out.grown hg5 HBL.out.size (fun k e => by cases e; omega); clear hm5 hg5)
              go_roundw
              case rel => exact ⟨k + 1, _, by have := HLT.out; omega, by have := HLT.out; have := H.out.len; go_num, HSK.out.2 ⟨HST.out, HGOOD.out⟩, HM5.out.same HSU.out, HX5.out, HB5.out⟩
              case measure => have := HLT.out; simp [intOf]; omega
          · have hf : d = 2 := HF.out hgood
            subst hf
            have hx0 : (x != 0) = true := by
              have : x ≠ 0 := fun h => hgood (.inl h)
              simpa using this
            by_cases hp1 : x < 2
            · clear hgood
              go_wp2_with fail
              go_ret
              exact ⟨rfl, HBL.out⟩
            · by_cases hp2 : 4096 ≤ x
              · clear hgood
                go_wp2_with fail
                go_ret
                exact ⟨rfl, HBL.out⟩
              · have hlk : (Instr.lookup 45 (.map (some (w.heap.size + 1))) (.int .i64 x) false).run Try.prog wr = .ok (.int .i64 1) wr := HMA.out.lookrun HRG.out (some 1) (by
                  have : ∃ i, i < k ∧ atZ zs i = x := Classical.byContradiction fun hno => hgood (.inr ⟨⟨by omega, by omega⟩, fun i hi e => hno ⟨i, hi, e⟩⟩)
                  exact if_pos this)
                clear hgood
                go_wp2_with fail
                go_ret
                exact ⟨rfl, HBL.out⟩
        · obtain rfl : k = zs.length := by omega
          have hf : d = 0 := by
            rw [← HD.out]
            exact if_pos ⟨H.out.len, HTR.out, HST.out⟩
          subst hf
          have hkm : ¬ (((zs.length : Nat) : Int) < (m : Int)) := by have := HN.out; omega
          clear hlt hk
          go_wp2_with fail
          go_ret
          exact ⟨rfl, HBL.out⟩
  · have HTR : Hid (trimN zs = zs.length) := by have := trimN_le zs; rw [Hid]; omega
    have hm0 : ((m : Int) == 0) = true := by simp; omega
    clear h hn hd hw0 hb0 hx0 hmz hse
    go_enter Try.func27, Try.ntmps27
    go_wp2_with fail
    rw [HW0.out]
    go_loopw [5] (fun i wr => CkRel w w.heap.size (w.heap.size + 1) (.slice A m c) zs i wr) (fun i _ => zs.length - (intOf i).toNat)
    case atStart => exact ⟨0, 0, by omega, rfl, (fun j hj => absurd hj (Nat.not_lt_zero j)), HMZ.out, HX0.out, HB0.out⟩
    case round =>
      obtain ⟨k, cc, hk, rfl, hst, hma, hbx, hbl⟩ := hrel
      have HST := Lib.hid hst
      have HMA := Lib.hid hma
      have HBX := Lib.hid hbx
      have HBL := Lib.hid hbl
      have c1 := HBX.out.c0
      clear hst hma hbx hbl
      by_cases hlt : k < zs.length
      · exact absurd hlt (by have := HN.out; omega)
      · obtain rfl : k = zs.length := by omega
        have hf : d = 0 := by
          rw [← HD.out]
          exact if_pos ⟨H.out.len, HTR.out, HST.out⟩
        subst hf
        have hkm : ¬ (((zs.length : Nat) : Int) < (m : Int)) := by have := HN.out; omega
        clear hlt hk
        go_wp2_with fail
        go_ret
        exact ⟨rfl, HBL.out⟩

/-! Get. -/
set_option maxHeartbeats 2000000 in
theorem rget_any (w : World) (v : Value) (zs : List Int) (n : Int) (h : TbIn w v zs) :
    Calls Try.prog 16 #[.agg #[v], .int .i64 n] w (NumIs w (getT zs n) (getOk zs n)) := by
  have H := Lib.hid h
  obtain ⟨A, m, c, rfl, N, hnc, hcm⟩ := h.row.form
  obtain ⟨w0, hw0⟩ : ∃ w0, w.alloc (.cells #[.slice A m c] 24) = w0 := ⟨_, rfl⟩
  have HX0 : Hid (TbBox w0 w.heap.size (.slice A m c)) := hw0 ▸ SBox.new w 24 [.slice A m c]
  have HB0 : Hid (Below w.heap.size w w0) := hw0 ▸ below_new w _
  have HW0 := Lib.hid hw0
  have hn : m = zs.length := h.row.lenZ
  have HN := Lib.hid hn
  have HCK := Lib.hid (rcheck_any w0 _ zs (H.out.below HB0.out))
  unfold chkT at HCK
  generalize hg : getT zs n = g
  generalize ho : getOk zs n = o
  have ho' : o = decide (g ≠ 0) := by rw [← ho, ← hg]; rfl
  by_cases hok : tbOk zs
  · rw [if_pos hok] at HCK
    by_cases h0 : n < 0
    · obtain rfl : g = 0 := by rw [← hg]; exact if_neg (fun h => by omega)
      obtain rfl : o = false := by rw [ho']; simp
      clear h hn hw0 hok ho' hg ho
      go_enter Try.func16, Try.ntmps16
      go_wp2_with fail
      rw [HW0.out]
      have c1 := HX0.out.c0
      go_wp2_with fail
      refine HCK.out.mono ?_
      rintro e w1 ⟨rfl, hb1⟩
      have HX1 : Hid (TbBox w1 w.heap.size (.slice A m c)) := HX0.out.below hb1
      have HB1 : Hid (Below w.heap.size w w1) := HB0.out.trans (hb1.mono HB0.out.size)
      clear hb1 c1
      have c1 := HX1.out.c0
      go_wp2_with fail
      go_ret2
      exact ⟨rfl, HB1.out⟩
    · by_cases h1 : (m : Int) ≤ n
      · obtain rfl : g = 0 := by
          rw [← hg]
          unfold getT
          rw [if_pos ⟨hok, by omega⟩]
          exact atZ_ge (by omega)
        obtain rfl : o = false := by rw [ho']; simp
        clear h hn hw0 hok ho' hg ho
        go_enter Try.func16, Try.ntmps16
        go_wp2_with fail
        rw [HW0.out]
        have c1 := HX0.out.c0
        go_wp2_with fail
        refine HCK.out.mono ?_
        rintro e w1 ⟨rfl, hb1⟩
        have HX1 : Hid (TbBox w1 w.heap.size (.slice A m c)) := HX0.out.below hb1
        have HB1 : Hid (Below w.heap.size w w1) := HB0.out.trans (hb1.mono HB0.out.size)
        clear hb1 c1
        have c1 := HX1.out.c0
        go_wp2_with fail
        go_ret2
        exact ⟨rfl, HB1.out⟩
      · obtain ⟨j, rfl⟩ := Int.eq_ofNat_of_zero_le (show 0 ≤ n by omega)
        have hg' : g = atZ zs j := by rw [← hg, getT_ok hok]
        have hjm : (j : Int) < (m : Int) := by omega
        have hjl : j < zs.length := by omega
        have HC := Lib.hid fun w1 (hb : Below w.heap.size w w1) => (H.out.row.below hb).atZ (k := j) hjl
        rw [← hg'] at HC
        by_cases e : g = 0
        · subst e
          obtain rfl : o = false := by rw [ho']; simp
          clear h hn hw0 hok ho' hg ho h0 h1 hg' hjl
          go_enter Try.func16, Try.ntmps16
          go_wp2_with fail
          rw [HW0.out]
          have c1 := HX0.out.c0
          go_wp2_with fail
          refine HCK.out.mono ?_
          rintro e w1 ⟨rfl, hb1⟩
          have HX1 : Hid (TbBox w1 w.heap.size (.slice A m c)) := HX0.out.below hb1
          have HB1 : Hid (Below w.heap.size w w1) := HB0.out.trans (hb1.mono HB0.out.size)
          clear hb1 c1
          have c1 := HX1.out.c0
          obtain ⟨b, off, rfl, hb, hc⟩ := HC.out w1 HB1.out
          go_wp2_with fail
          go_ret2
          exact ⟨rfl, HB1.out⟩
        · obtain rfl : o = true := by rw [ho']; exact decide_eq_true e
          have he : (g == 0) = false := by simpa using e
          clear h hn hw0 hok ho' hg ho h0 h1 hg' hjl e
          go_enter Try.func16, Try.ntmps16
          go_wp2_with fail
          rw [HW0.out]
          have c1 := HX0.out.c0
          go_wp2_with fail
          refine HCK.out.mono ?_
          rintro e w1 ⟨rfl, hb1⟩
          have HX1 : Hid (TbBox w1 w.heap.size (.slice A m c)) := HX0.out.below hb1
          have HB1 : Hid (Below w.heap.size w w1) := HB0.out.trans (hb1.mono HB0.out.size)
          clear hb1 c1
          have c1 := HX1.out.c0
          obtain ⟨b, off, rfl, hb, hc⟩ := HC.out w1 HB1.out
          go_wp2_with fail
          go_ret2
          exact ⟨rfl, HB1.out⟩
  · rw [if_neg hok] at HCK
    obtain rfl : g = 0 := by rw [← hg]; exact if_neg (fun h => hok h.1)
    obtain rfl : o = false := by rw [ho']; simp
    clear h hn hw0 hok ho' hg ho
    go_enter Try.func16, Try.ntmps16
    go_wp2_with fail
    rw [HW0.out]
    have c1 := HX0.out.c0
    go_wp2_with fail
    refine HCK.out.mono ?_
    rintro e w1 ⟨rfl, hb1⟩
    have HX1 : Hid (TbBox w1 w.heap.size (.slice A m c)) := HX0.out.below hb1
    have HB1 : Hid (Below w.heap.size w w1) := HB0.out.trans (hb1.mono HB0.out.size)
    clear hb1 c1
    have c1 := HX1.out.c0
    go_wp2_with fail
    go_ret2
    exact ⟨rfl, HB1.out⟩

/-! Find. -/
set_option maxHeartbeats 2000000 in
theorem rfind_any10 (w : World) (v : Value) (zs : List Int) (p : Int) (h : TbIn w v zs) :
    Calls Try.prog 22 #[.agg #[v], .int .i64 p] w (NumIs w (findT zs p).1 (findT zs p).2) := by
  have H := Lib.hid h
  obtain ⟨A, m, c, rfl, N, hnc, hcm⟩ := h.row.form
  obtain ⟨w0, hw0⟩ : ∃ w0, w.alloc (.cells #[.slice A m c] 24) = w0 := ⟨_, rfl⟩
  have HX0 : Hid (TbBox w0 w.heap.size (.slice A m c)) := hw0 ▸ SBox.new w 24 [.slice A m c]
  have HB0 : Hid (Below w.heap.size w w0) := hw0 ▸ below_new w _
  have HW0 := Lib.hid hw0
  have hn : m = zs.length := h.row.lenZ
  have HN := Lib.hid hn
  have HCK := Lib.hid (rcheck_any w0 _ zs (H.out.below HB0.out))
  unfold chkT at HCK
  by_cases hok : tbOk zs
  · rw [if_pos hok] at HCK
    by_cases hp : p = 0
    · have hf : findT zs p = (0, false) := if_neg (fun h => by have := h.2.1.1; omega)
      rw [hf]
      subst hp
      clear h hn hw0 hok hf
      go_enter Try.func22, Try.ntmps22
      go_wp2_with fail
      rw [HW0.out]
      have c1 := HX0.out.c0
      go_wp2_with fail
      refine HCK.out.mono ?_
      rintro e w1 ⟨rfl, hb1⟩
      have HX1 : Hid (TbBox w1 w.heap.size (.slice A m c)) := HX0.out.below hb1
      have HB1 : Hid (Below w.heap.size w w1) := HB0.out.trans (hb1.mono HB0.out.size)
      clear hb1 c1
      have c1 := HX1.out.c0
      go_wp2_with fail
      go_ret2
      exact ⟨rfl, HB1.out⟩
    · have hp' : (p == 0) = false := by simpa using hp
      have HFT : Hid (∀ k, k ≤ zs.length → (∀ i, i < k → atZ zs i ≠ p) → (k < zs.length → atZ zs k = p) → findT zs p = if k < zs.length then ((k : Int), true) else (0, false)) := by
        intro k hk h1 h2
        have hi := idxZ_is p zs k hk h1 h2
        unfold findT
        rw [hi]
        by_cases hl : k < zs.length
        · rw [if_pos hl, if_pos ⟨hok, by have := standZ_page hok.2.2 (j := k) (by rw [h2 hl]; exact hp); rw [h2 hl] at this; exact this, hl⟩]
        · rw [if_neg hl, if_neg (fun h => hl h.2.2)]
      have HL : Hid (zs.length ≤ 65536) := h.len
      generalize findT zs p = r at *
      clear h hn hw0 hok hp
      go_enter Try.func22, Try.ntmps22
      go_wp2_with fail
      rw [HW0.out]
      have c1 := HX0.out.c0
      go_wp2_with fail
      refine HCK.out.mono ?_
      rintro e w1 ⟨rfl, hb1⟩
      have HX1 : Hid (TbBox w1 w.heap.size (.slice A m c)) := HX0.out.below hb1
      have HB1 : Hid (Below w.heap.size w w1) := HB0.out.trans (hb1.mono HB0.out.size)
      clear hb1 c1
      have c1 := HX1.out.c0
      go_wp2_with fail
      go_loop [6] (fun i => IxZRel zs p i) (fun i => zs.length - (intOf i).toNat)
      case atStart => exact ⟨0, by omega, rfl, by simp⟩
      case round =>
        obtain ⟨k, hk, rfl, hall⟩ := hrel
        have HA := Lib.hid hall
        clear hall
        by_cases hlt : k < zs.length
        · have hkn : (k : Int) < (m : Int) := by have := HN.out; omega
          obtain ⟨b, off, rfl, hb, hc⟩ := (H.out.row.below HB1.out).atZ hlt
          have HLT : Hid (k < zs.length) := hlt
          clear hlt
          generalize hy : atZ zs k = y at *
          have HY := Lib.hid hy
          clear hy
          by_cases e : y = p
          · have hr := HFT.out k (by have := HLT.out; omega) HA.out (fun _ => HY.out.trans e)
            rw [if_pos HLT.out] at hr
            subst hr e
            go_wp2_with fail
            go_ret2
            exact ⟨rfl, HB1.out⟩
          · have he : (y == p) = false := by simpa using e
            have HNE := Lib.hid e
            clear e
            go_wp2_with fail
            go_roundw
            case rel =>
              refine ⟨k + 1, by have := HLT.out; omega, by have := HL.out; have := HLT.out; go_num, fun i hi => ?_⟩
              by_cases e : i = k
              · subst e; rw [HY.out]; exact HNE.out
              · exact HA.out i (by omega)
            case measure => have := HLT.out; simp [intOf]; omega
        · obtain rfl : k = zs.length := by omega
          have hr := HFT.out zs.length (Nat.le_refl _) HA.out (fun h => absurd h (Nat.lt_irrefl _))
          rw [if_neg (Nat.lt_irrefl _)] at hr
          subst hr
          have hkn : ¬ (((zs.length : Nat) : Int) < (m : Int)) := by have := HN.out; omega
          clear hlt hk
          go_wp2_with fail
          go_ret2
          exact ⟨rfl, HB1.out⟩
  · rw [if_neg hok] at HCK
    have hf : findT zs p = (0, false) := if_neg (fun h => hok h.1)
    rw [hf]
    clear h hn hw0 hok hf
    go_enter Try.func22, Try.ntmps22
    go_wp2_with fail
    rw [HW0.out]
    have c1 := HX0.out.c0
    go_wp2_with fail
    refine HCK.out.mono ?_
    rintro e w1 ⟨rfl, hb1⟩
    have HX1 : Hid (TbBox w1 w.heap.size (.slice A m c)) := HX0.out.below hb1
    have HB1 : Hid (Below w.heap.size w w1) := HB0.out.trans (hb1.mono HB0.out.size)
    clear hb1 c1
    have c1 := HX1.out.c0
    go_wp2_with fail
    go_ret2
    exact ⟨rfl, HB1.out⟩

/-! Fresh. -/
set_option maxHeartbeats 2000000 in
theorem rfresh_any (w : World) (v : Value) (zs : List Int) (h : TbIn w v zs) (h4 : zs.length ≤ 400) :
    Calls Try.prog 21 #[.agg #[v]] w (NumE w (freshT zs)) := by
  have H := Lib.hid h
  obtain ⟨A, m, c, rfl, N, hnc, hcm⟩ := h.row.form
  obtain ⟨w0, hw0⟩ : ∃ w0, w.alloc (.cells #[.slice A m c] 24) = w0 := ⟨_, rfl⟩
  have HX0 : Hid (TbBox w0 w.heap.size (.slice A m c)) := hw0 ▸ SBox.new w 24 [.slice A m c]
  have HB0 : Hid (Below w.heap.size w w0) := hw0 ▸ below_new w _
  have HW0 := Lib.hid hw0
  have hn : m = zs.length := h.row.lenZ
  have HN := Lib.hid hn
  have HCK := Lib.hid (rcheck_any w0 _ zs (H.out.below HB0.out))
  unfold chkT at HCK
  by_cases hok : tbOk zs
  · rw [if_pos hok] at HCK
    have HFT : Hid (∀ k, k ≤ zs.length → (∀ i, i < k → atZ zs i ≠ 0) → (k < zs.length → atZ zs k = 0) → freshT zs = ((k : Int), 0)) := by
      intro k hk h1 h2
      rw [freshT_ok hok (by omega), idxZ_is 0 zs k hk h1 h2]
    have HL : Hid (zs.length ≤ 400) := h4
    have hm4 : (m : Int) ≤ 400 := by omega
    have hme : ((m : Int) == 65536) = false := by simp; omega
    generalize freshT zs = r at *
    clear h hn hw0 hok h4
    go_enter Try.func21, Try.ntmps21
    go_wp2_with fail
    rw [HW0.out]
    have c1 := HX0.out.c0
    go_wp2_with fail
    refine HCK.out.mono ?_
    rintro e w1 ⟨rfl, hb1⟩
    have HX1 : Hid (TbBox w1 w.heap.size (.slice A m c)) := HX0.out.below hb1
    have HB1 : Hid (Below w.heap.size w w1) := HB0.out.trans (hb1.mono HB0.out.size)
    clear hb1 c1
    have c1 := HX1.out.c0
    go_wp2_with fail
    go_loop [4] (fun i => IxZRel zs 0 i) (fun i => zs.length - (intOf i).toNat)
    case atStart => exact ⟨0, by omega, rfl, by simp⟩
    case round =>
      obtain ⟨k, hk, rfl, hall⟩ := hrel
      have HA := Lib.hid hall
      clear hall
      by_cases hlt : k < zs.length
      · have hkn : (k : Int) < (m : Int) := by have := HN.out; omega
        obtain ⟨b, off, rfl, hb, hc⟩ := (H.out.row.below HB1.out).atZ hlt
        have HLT : Hid (k < zs.length) := hlt
        clear hlt
        generalize hy : atZ zs k = y at *
        have HY := Lib.hid hy
        clear hy
        by_cases e : y = 0
        · have hr := HFT.out k (by have := HLT.out; omega) HA.out (fun _ => HY.out.trans e)
          subst hr e
          go_wp2_with fail
          go_ret2
          exact ⟨rfl, HB1.out⟩
        · have he : (y == 0) = false := by simpa using e
          have HNE := Lib.hid e
          clear e
          go_wp2_with fail
          go_roundw
          case rel =>
            refine ⟨k + 1, by have := HLT.out; omega, by have := HL.out; have := HLT.out; go_num, fun i hi => ?_⟩
            by_cases e : i = k
            · subst e; rw [HY.out]; exact HNE.out
            · exact HA.out i (by omega)
          case measure => have := HLT.out; simp [intOf]; omega
      · obtain rfl : k = zs.length := by omega
        have hr := HFT.out zs.length (Nat.le_refl _) HA.out (fun h => absurd h (Nat.lt_irrefl _))
        subst hr
        have hkn : ¬ (((zs.length : Nat) : Int) < (m : Int)) := by have := HN.out; omega
        have HMZ : Hid ((zs.length : Int) = (m : Int)) := by have := HN.out; rw [Hid]; omega
        clear hlt hk
        go_wp2_with fail
        go_ret2
        exact ⟨by rw [HMZ.out]; rfl, HB1.out⟩
  · rw [if_neg hok] at HCK
    have hf : freshT zs = (0, 2) := if_pos hok
    rw [hf]
    clear h hn hw0 hok hf h4
    go_enter Try.func21, Try.ntmps21
    go_wp2_with fail
    rw [HW0.out]
    have c1 := HX0.out.c0
    go_wp2_with fail
    refine HCK.out.mono ?_
    rintro e w1 ⟨rfl, hb1⟩
    have HX1 : Hid (TbBox w1 w.heap.size (.slice A m c)) := HX0.out.below hb1
    have HB1 : Hid (Below w.heap.size w w1) := HB0.out.trans (hb1.mono HB0.out.size)
    clear hb1 c1
    have c1 := HX1.out.c0
    go_wp2_with fail
    go_ret2
    exact ⟨rfl, HB1.out⟩
end Go.Proofs.Ythakkaffjnkhgaa
