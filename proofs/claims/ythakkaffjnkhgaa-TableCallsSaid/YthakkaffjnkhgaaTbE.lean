/-
  Package table's Find, Fresh, Pages, Count by their contracts. Conditions: lists of at most 65536 ints of 64 bits.
-/
import Derived.Test.YthakkaffjnkhgaaTbD
namespace Go.Proofs.Ythakkaffjnkhgaa
open Go.RowKit Go.Maps
set_option maxRecDepth 100000
set_option linter.unusedVariables false
set_option linter.unusedSimpArgs false
/-! Find. -/
set_option maxHeartbeats 1000000 in
theorem tfind_any (w : World) (v : Value) (zs : List Int) (p : Int) (h : TbIn w v zs) :
    Calls Try.prog 11 #[.agg #[v], .int .i64 p] w (NumIs w (findT zs p).1 (findT zs p).2) := by
  have H := Lib.hid h
  obtain ⟨A, m, c, rfl, N, hnc, hcm⟩ := h.row.form
  obtain ⟨w0, hw0⟩ : ∃ w0, w.alloc (.cells #[.slice A m c] 24) = w0 := ⟨_, rfl⟩
  have HX0 : Hid (TbBox w0 w.heap.size (.slice A m c)) := hw0 ▸ SBox.new w 24 [.slice A m c]
  have HB0 : Hid (Below w.heap.size w w0) := hw0 ▸ below_new w _
  have HW0 := Lib.hid hw0
  have hn : m = zs.length := h.row.lenZ
  have HN := Lib.hid hn
  have HCK := Lib.hid (tcheck_any w0 _ zs (H.out.below HB0.out))
  unfold chkT at HCK
  have HIX := Lib.hid fun w1 (hb : Below w.heap.size w w1) => zindex_any w1 _ zs p (H.out.row.below hb) (by have := H.out.len; omega)
  have HPG := Lib.hid (ispage_any p)
  by_cases hok : tbOk zs
  · rw [if_pos hok] at HCK
    by_cases hp : pgOk p
    · rw [decide_eq_true hp] at HPG
      by_cases hi : idxZ zs p < zs.length
      · have hf : findT zs p = (((idxZ zs p : Nat) : Int), true) := if_pos ⟨hok, hp, hi⟩
        have hx : ixT zs p = ((idxZ zs p : Nat) : Int) := if_pos hi
        rw [hf]
        rw [hx] at HIX
        generalize idxZ zs p = j at *
        clear h hn hw0 hok hp hi hf hx
        go_enter Try.func11, Try.ntmps11
        go_wp2_with fail
        rw [HW0.out]
        have c1 := HX0.out.c0
        go_wp2_with fail
        refine HCK.out.mono ?_
        rintro e w1 ⟨rfl, hb1⟩
        have HX1 : Hid (TbBox w1 w.heap.size (.slice A m c)) := HX0.out.below hb1
        have HB1 : Hid (Below w.heap.size w w1) := HB0.out.trans (hb1.mono HB0.out.size)
        clear hb1 c1
        have c1 := HX1.out.c0
        go_wp2_with fail
        refine (HPG.out w1).mono ?_
        rintro e w2 ⟨rfl, rfl⟩
        go_wp2_with fail
        refine (HIX.out w1 HB1.out).mono ?_
        rintro e w2 ⟨rfl, rfl⟩
        go_wp2_with fail
        go_ret2
        exact ⟨rfl, HB1.out⟩
      · have hf : findT zs p = (0, false) := if_neg (fun h => hi h.2.2)
        have hx : ixT zs p = -1 := if_neg hi
        rw [hf]
        rw [hx] at HIX
        clear h hn hw0 hok hp hi hf hx
        go_enter Try.func11, Try.ntmps11
        go_wp2_with fail
        rw [HW0.out]
        have c1 := HX0.out.c0
        go_wp2_with fail
        refine HCK.out.mono ?_
        rintro e w1 ⟨rfl, hb1⟩
        have HX1 : Hid (TbBox w1 w.heap.size (.slice A m c)) := HX0.out.below hb1
        have HB1 : Hid (Below w.heap.size w w1) := HB0.out.trans (hb1.mono HB0.out.size)
        clear hb1 c1
        have c1 := HX1.out.c0
        go_wp2_with fail
        refine (HPG.out w1).mono ?_
        rintro e w2 ⟨rfl, rfl⟩
        go_wp2_with fail
        refine (HIX.out w1 HB1.out).mono ?_
        rintro e w2 ⟨rfl, rfl⟩
        go_wp2_with fail
        go_ret2
        exact ⟨rfl, HB1.out⟩
    · rw [decide_eq_false hp] at HPG
      have hf : findT zs p = (0, false) := if_neg (fun h => hp h.2.1)
      rw [hf]
      clear h hn hw0 hok hp hf
      go_enter Try.func11, Try.ntmps11
      go_wp2_with fail
      rw [HW0.out]
      have c1 := HX0.out.c0
      go_wp2_with fail
      refine HCK.out.mono ?_
      rintro e w1 ⟨rfl, hb1⟩
      have HX1 : Hid (TbBox w1 w.heap.size (.slice A m c)) := HX0.out.below hb1
      have HB1 : Hid (Below w.heap.size w w1) := HB0.out.trans (hb1.mono HB0.out.size)
      clear hb1 c1
      have c1 := HX1.out.c0
      go_wp2_with fail
      refine (HPG.out w1).mono ?_
      rintro e w2 ⟨rfl, rfl⟩
      go_wp2_with fail
      go_ret2
      exact ⟨rfl, HB1.out⟩
  · rw [if_neg hok] at HCK
    have hf : findT zs p = (0, false) := if_neg (fun h => hok h.1)
    rw [hf]
    clear h hn hw0 hok hf
    go_enter Try.func11, Try.ntmps11
    go_wp2_with fail
    rw [HW0.out]
    have c1 := HX0.out.c0
    go_wp2_with fail
    refine HCK.out.mono ?_
    rintro e w1 ⟨rfl, hb1⟩
    have HX1 : Hid (TbBox w1 w.heap.size (.slice A m c)) := HX0.out.below hb1
    have HB1 : Hid (Below w.heap.size w w1) := HB0.out.trans (hb1.mono HB0.out.size)
    clear hb1 c1
    have c1 := HX1.out.c0
    go_wp2_with fail
    go_ret2
    exact ⟨rfl, HB1.out⟩

/-! Fresh. -/
/-- What a call that answers a number and an error leaves. -/
def NumE (w : World) (r : Int × Int) (e : Ending) (w' : World) : Prop := e = .returned (.tuple #[.int .i64 r.1, .int .i64 r.2]) ∧ Below w.heap.size w w'
set_option maxHeartbeats 1000000 in
theorem tfresh_any (w : World) (v : Value) (zs : List Int) (h : TbIn w v zs) :
    Calls Try.prog 20 #[.agg #[v]] w (NumE w (freshT zs)) := by
  have H := Lib.hid h
  obtain ⟨A, m, c, rfl, N, hnc, hcm⟩ := h.row.form
  obtain ⟨w0, hw0⟩ : ∃ w0, w.alloc (.cells #[.slice A m c] 24) = w0 := ⟨_, rfl⟩
  have HX0 : Hid (TbBox w0 w.heap.size (.slice A m c)) := hw0 ▸ SBox.new w 24 [.slice A m c]
  have HB0 : Hid (Below w.heap.size w w0) := hw0 ▸ below_new w _
  have HW0 := Lib.hid hw0
  have hn : m = zs.length := h.row.lenZ
  have HN := Lib.hid hn
  have HCK := Lib.hid (tcheck_any w0 _ zs (H.out.below HB0.out))
  unfold chkT at HCK
  have HIX := Lib.hid fun w1 (hb : Below w.heap.size w w1) => zindex_any w1 _ zs 0 (H.out.row.below hb) (by have := H.out.len; omega)
  by_cases hok : tbOk zs
  · rw [if_pos hok] at HCK
    by_cases hl : (m : Int) = 65536
    · have hf : freshT zs = (0, 9) := by
        unfold freshT
        rw [if_neg (fun h => h hok), if_pos (by omega)]
      rw [hf]
      have hl' : ((m : Int) == 65536) = true := by simpa using hl
      clear h hn hw0 hok hf hl
      go_enter Try.func20, Try.ntmps20
      go_wp2_with fail
      rw [HW0.out]
      have c1 := HX0.out.c0
      go_wp2_with fail
      refine HCK.out.mono ?_
      rintro e w1 ⟨rfl, hb1⟩
      have HX1 : Hid (TbBox w1 w.heap.size (.slice A m c)) := HX0.out.below hb1
      have HB1 : Hid (Below w.heap.size w w1) := HB0.out.trans (hb1.mono HB0.out.size)
      clear hb1 c1
      have c1 := HX1.out.c0
      go_wp2_with fail
      go_ret2
      exact ⟨rfl, HB1.out⟩
    · have hf : freshT zs = (((idxZ zs 0 : Nat) : Int), 0) := by
        unfold freshT
        rw [if_neg (fun h => h hok), if_neg (by omega)]
      rw [hf]
      have hl' : ((m : Int) == 65536) = false := by simpa using hl
      by_cases hi : idxZ zs 0 < zs.length
      · have hx : ixT zs 0 = ((idxZ zs 0 : Nat) : Int) := if_pos hi
        rw [hx] at HIX
        generalize idxZ zs 0 = j at *
        clear h hn hw0 hok hf hl hi hx
        go_enter Try.func20, Try.ntmps20
        go_wp2_with fail
        rw [HW0.out]
        have c1 := HX0.out.c0
        go_wp2_with fail
        refine HCK.out.mono ?_
        rintro e w1 ⟨rfl, hb1⟩
        have HX1 : Hid (TbBox w1 w.heap.size (.slice A m c)) := HX0.out.below hb1
        have HB1 : Hid (Below w.heap.size w w1) := HB0.out.trans (hb1.mono HB0.out.size)
        clear hb1 c1
        have c1 := HX1.out.c0
        go_wp2_with fail
        refine (HIX.out w1 HB1.out).mono ?_
        rintro e w2 ⟨rfl, rfl⟩
        go_wp2_with fail
        go_ret2
        exact ⟨rfl, HB1.out⟩
      · have hx : ixT zs 0 = -1 := if_neg hi
        have hj : idxZ zs 0 = m := by have := idxZ_le 0 zs; omega
        rw [hx] at HIX
        rw [hj]
        clear h hn hw0 hok hf hl hi hx hj
        go_enter Try.func20, Try.ntmps20
        go_wp2_with fail
        rw [HW0.out]
        have c1 := HX0.out.c0
        go_wp2_with fail
        refine HCK.out.mono ?_
        rintro e w1 ⟨rfl, hb1⟩
        have HX1 : Hid (TbBox w1 w.heap.size (.slice A m c)) := HX0.out.below hb1
        have HB1 : Hid (Below w.heap.size w w1) := HB0.out.trans (hb1.mono HB0.out.size)
        clear hb1 c1
        have c1 := HX1.out.c0
        go_wp2_with fail
        refine (HIX.out w1 HB1.out).mono ?_
        rintro e w2 ⟨rfl, rfl⟩
        go_wp2_with fail
        go_ret2
        exact ⟨rfl, HB1.out⟩
  · rw [if_neg hok] at HCK
    have hf : freshT zs = (0, 2) := if_pos hok
    rw [hf]
    clear h hn hw0 hok hf
    go_enter Try.func20, Try.ntmps20
    go_wp2_with fail
    rw [HW0.out]
    have c1 := HX0.out.c0
    go_wp2_with fail
    refine HCK.out.mono ?_
    rintro e w1 ⟨rfl, hb1⟩
    have HX1 : Hid (TbBox w1 w.heap.size (.slice A m c)) := HX0.out.below hb1
    have HB1 : Hid (Below w.heap.size w w1) := HB0.out.trans (hb1.mono HB0.out.size)
    clear hb1 c1
    have c1 := HX1.out.c0
    go_wp2_with fail
    go_ret2
    exact ⟨rfl, HB1.out⟩

/-! Pages. -/
/-- What a call that answers a list of ints leaves. -/
def RowE (w : World) (zs : List Int) (e : Ending) (w' : World) : Prop := ∃ v, e = .returned v ∧ RowO w' w.heap.size v zs ∧ Below w.heap.size w w'
def PgsRel (w : World) (zs : List Int) (v i : Value) (wr : World) : Prop := ∃ (k : Nat) (A : Option Addr) (q c : Nat), k ≤ zs.length ∧ i = .int .i64 (k : Int) ∧ v = .slice A q c ∧ OwnV wr w.heap.size 3 v (intC ((zs.take k).filter nzB)) ∧ Below w.heap.size w wr
theorem take_atZ {zs : List Int} {k : Nat} (h : k < zs.length) : zs.take (k + 1) = zs.take k ++ [atZ zs k] := by rw [List.take_succ_eq_append_getElem h, atZ_lt h]
theorem intC_app (l m : List Int) : intC (l ++ m) = intC l ++ intC m := by simp [intC]
set_option maxHeartbeats 2000000 in
theorem tpages_any (w : World) (v : Value) (zs : List Int) (h : TbIn w v zs) :
    Calls Try.prog 28 #[.agg #[v]] w (RowE w (pagesT zs)) := by
  have H := Lib.hid h
  obtain ⟨A, m, c, rfl, N, hnc, hcm⟩ := h.row.form
  obtain ⟨w0, hw0⟩ : ∃ w0, w.alloc (.cells #[.slice A m c] 24) = w0 := ⟨_, rfl⟩
  have HX0 : Hid (TbBox w0 w.heap.size (.slice A m c)) := hw0 ▸ SBox.new w 24 [.slice A m c]
  have HB0 : Hid (Below w.heap.size w w0) := hw0 ▸ below_new w _
  have HW0 := Lib.hid hw0
  have hn : m = zs.length := h.row.lenZ
  have HN := Lib.hid hn
  have HCK := Lib.hid (tcheck_any w0 _ zs (H.out.below HB0.out))
  unfold chkT at HCK
  by_cases hok : tbOk zs
  · rw [if_pos hok] at HCK
    obtain ⟨i0, hi0, hz0, hz1, hz2⟩ := info_parts iinfo
    have hf : pagesT zs = zs.filter nzB := if_pos hok
    rw [hf]
    have HL : Hid (m ≤ 65536) := by have := h.len; rw [Hid]; omega
    clear h hn hw0 hok hf
    go_enter Try.func28, Try.ntmps28
    go_wp2_with fail
    rw [HW0.out]
    have c1 := HX0.out.c0
    go_wp2_with fail
    refine HCK.out.mono ?_
    rintro e w1 ⟨rfl, hb1⟩
    have HX1 : Hid (TbBox w1 w.heap.size (.slice A m c)) := HX0.out.below hb1
    have HB1 : Hid (Below w.heap.size w w1) := HB0.out.trans (hb1.mono HB0.out.size)
    clear hb1 c1
    have c1 := HX1.out.c0
    go_wp2_with fail
    go_loopw [3, 12] (fun v i wr => PgsRel w zs v i wr) (fun v i _ => m - (intOf i).toNat)
    case atStart => exact ⟨0, none, 0, 0, by omega, rfl, rfl, OwnV.nil _ _ _, HB1.out⟩
    case round =>
      obtain ⟨k, A', q', c', hk, rfl, rfl, hown, hbel⟩ := hrel
      have HO := Lib.hid hown
      have HB := Lib.hid hbel
      have HK := Lib.hid hk
      clear hown hbel c1
      by_cases hlt : k < zs.length
      · have hkn : (k : Int) < (m : Int) := by have := HN.out; omega
        obtain ⟨b, off, rfl, hb, hc⟩ := (H.out.row.below HB.out).atZ hlt
        have HT : Hid ((zs.take (k + 1)).filter nzB = (zs.take k).filter nzB ++ (if nzB (atZ zs k) then [atZ zs k] else [])) := by
          rw [Hid, take_atZ hlt, List.filter_append]
          congr 1
          unfold List.filter List.filter
          cases nzB (atZ zs k) <;> rfl
        have HLT : Hid (k < zs.length) := hlt
        have HFL : Hid ((intC ((zs.take k).filter nzB)).length ≤ 65536) := by
          have h1 := List.length_filter_le nzB (zs.take k)
          rw [List.length_take] at h1
          have := HL.out
          have := HN.out
          rw [Hid, intC_len]
          omega
        generalize atZ zs k = y at *
        clear hlt hk
        by_cases e : y = 0
        · subst e
          have HT' : Hid ((zs.take (k + 1)).filter nzB = (zs.take k).filter nzB) := HT.out.trans (by simp [nzB])
          go_wp2_with fail
          go_roundw
          case rel =>
            exact ⟨k + 1, A', q', c', by have := HLT.out; omega, by have := HL.out; have := HLT.out; have := HN.out; go_num, rfl, by rw [HT'.out]; exact HO.out, HB.out⟩
          case measure => have := HLT.out; have := HN.out; simp [intOf]; omega
        · have he : (y != 0) = true := by simpa using e
          have HT' : Hid ((zs.take (k + 1)).filter nzB = (zs.take k).filter nzB ++ [y]) := HT.out.trans (by simp [nzB, e])
          clear e
          go_wp2_with (at_builtin; refine wpList_appV rfl (.tmp 18) (.tmp 20) _ rfl w.heap.size 3 8 i0 _ Try.underlying22 hi0 hz0 hz1 hz2 rfl _ (intC ((zs.take k).filter nzB)) rfl (HO.out.keep (below_new wr _)) _ [.int .i64 y] rfl (Rowz.litV wr [.int .i64 y] 3 (by simp [maxLen])) (by simp [Value.oneCell']) (by have := HFL.out; simp only [List.length_cons, List.length_nil]; omega) (by have := HFL.out; simp only [List.length_cons, List.length_nil, maxLen]; omega) (by have := HB.out.size; simp; omega) ?_; intro v3 w3 hown3 hg3 hat3; have hb3 : Below w.heap.size w w3 := OwnV.below (HO.out.keep (below_new wr _)) (HB.out.alloc HB.out.size _) (by have := HB.out.size; simp; omega) hg3; obtain ⟨A3, q3, c3, rfl, _, _, _⟩ := hown3.rowz.form)
          go_roundw
          case rel =>
            refine ⟨k + 1, _, _, _, by have := HLT.out; omega, by have := HL.out; have := HLT.out; have := HN.out; go_num, rfl, ?_, hb3⟩
            rw [HT'.out, intC_app]
            exact hown3
          case measure => have := HLT.out; have := HN.out; simp [intOf]; omega
      · obtain rfl : k = zs.length := by have := HK.out; omega
        have hkn : ¬ ((zs.length : Nat) : Int) < (m : Int) := by have := HN.out; omega
        clear hlt hk
        go_wp2_with fail
        go_ret
        have := HO.out
        rw [List.take_length] at this
        exact ⟨_, rfl, this.rowO, HB.out⟩
  · rw [if_neg hok] at HCK
    have hf : pagesT zs = [] := if_neg hok
    rw [hf]
    clear h hn hw0 hok hf
    go_enter Try.func28, Try.ntmps28
    go_wp2_with fail
    rw [HW0.out]
    have c1 := HX0.out.c0
    go_wp2_with fail
    refine HCK.out.mono ?_
    rintro e w1 ⟨rfl, hb1⟩
    have HX1 : Hid (TbBox w1 w.heap.size (.slice A m c)) := HX0.out.below hb1
    have HB1 : Hid (Below w.heap.size w w1) := HB0.out.trans (hb1.mono HB0.out.size)
    clear hb1 c1
    have c1 := HX1.out.c0
    go_wp2_with fail
    go_ret
    exact ⟨_, rfl, RowO.nil _ _, HB1.out⟩

/-! Count. -/
theorem pagesT_len (zs : List Int) : (pagesT zs).length ≤ zs.length := by
  unfold pagesT
  split
  · exact List.length_filter_le _ _
  · simp
theorem tcount_any (w : World) (v : Value) (zs : List Int) (h : TbIn w v zs) :
    Calls Try.prog 13 #[.agg #[v]] w fun e w' => e = .returned (.int .i64 ((pagesT zs).length : Nat)) ∧ Below w.heap.size w w' := by
  have H := Lib.hid h
  obtain ⟨A, m, c, rfl, N, hnc, hcm⟩ := h.row.form
  obtain ⟨w0, hw0⟩ : ∃ w0, w.alloc (.cells #[.slice A m c] 24) = w0 := ⟨_, rfl⟩
  have HX0 : Hid (TbBox w0 w.heap.size (.slice A m c)) := hw0 ▸ SBox.new w 24 [.slice A m c]
  have HB0 : Hid (Below w.heap.size w w0) := hw0 ▸ below_new w _
  have HW0 := Lib.hid hw0
  have HP := Lib.hid (tpages_any w0 _ zs (H.out.below HB0.out))
  obtain ⟨L, hL⟩ : ∃ L, (pagesT zs).length = L := ⟨_, rfl⟩
  have HL := Lib.hid hL
  rw [hL]
  clear h hw0 hL
  go_enter Try.func13, Try.ntmps13
  go_wp2_with fail
  rw [HW0.out]
  have c1 := HX0.out.c0
  go_wp2_with fail
  refine HP.out.mono ?_
  rintro e w1 ⟨x, rfl, hx, hb1⟩
  obtain ⟨A1, n1, c1', rfl, _, _, _⟩ := hx.1.form
  obtain rfl : L = n1 := HL.out.symm.trans hx.1.lenZ.symm
  have HB1 : Hid (Below w.heap.size w w1) := HB0.out.trans (hb1.mono HB0.out.size)
  clear hb1 c1 hx
  go_wp2_with fail
  go_ret
  exact ⟨rfl, HB1.out⟩
end Go.Proofs.Ythakkaffjnkhgaa
