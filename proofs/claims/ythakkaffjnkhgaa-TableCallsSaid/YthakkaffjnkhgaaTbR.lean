/-
  tallymanref10's Read by its contract. Conditions: at most 10,000 bytes.
-/
import Derived.Test.YthakkaffjnkhgaaTbQ
namespace Go.Proofs.Ythakkaffjnkhgaa
open Go.RowKit Go.Maps
set_option maxRecDepth 100000
set_option linter.unusedVariables false
set_option linter.unusedSimpArgs false

theorem row_block {w w' : World} {B : Nat} {e : TypeId} {v : Value} {vs : List Value} (ho : OwnV w B e v vs) (hg : w.grownBy w' v.ownBlock) {k : Nat} (hk : k < B) (hlt : k < w.heap.size) : w'.heap[k]? = w.heap[k]? := by
  refine hg.block k hlt ?_
  intro he
  have := (World.ownsRow.lt ho k (by first | exact he | exact he.symm)).1
  omega
theorem RRe.rowgrown {w w' : World} {B g e : Nat} {l : List UInt8} {t : TypeId} {v : Value} {vs : List Value} (h : RRe w g l e) (ho : OwnV w B t v vs) (hg : w.grownBy w' v.ownBlock) (hB : g < B) : RRe w' g l e :=
  h.keepG (Below.rowgrown (Below.refl g w) ho hg (Nat.le_of_lt hB) (Nat.le_of_lt h.lt)) (row_block ho hg hB h.lt)
set_option maxRecDepth 100000 in
set_option maxHeartbeats 8000000 in
theorem rread_any (w : World) (v : Value) (b : List UInt8) (hv : Byt w v b) (hlen : b.length ≤ 10000) :
    Calls Try.prog 26 #[v] w (TbOut w (readTb b)) := by
  obtain ⟨w0, hw0⟩ : ∃ w0, w.alloc (.cells #[.slice none 0 0] 24) = w0 := ⟨_, rfl⟩
  have HR0 : Hid (TbBox w0 w.heap.size (.slice none 0 0)) := hw0 ▸ SBox.new w 24 [.slice none 0 0]
  have HB0 : Hid (Below w.heap.size w w0) := hw0 ▸ below_new w _
  have HW0 := Lib.hid hw0
  have HNW := Lib.hid (rr_new w0 v b (hv.below HB0.out) hlen)
  have HZ0 : Hid (w0.heap.size = w.heap.size + 1) := by rw [Hid, ← hw0]; simp
  have hl46 : b.length ≤ 70368744177664 := by omega
  have HU0 : Hid (∀ W g, RRe W g b 0 → Calls Try.prog 44 #[.pointer (some ⟨g, 0, none⟩), .int .u64 65536] W (RTold W g .u64 (uptoB b 0 65536).1 (uptoB b 0 65536).2.1 (uptoB b 0 65536).2.2)) := fun W g h => rr_upto W g 0 65536 b h hl46 (by omega)
  have HNL : Hid ((uptoB b 0 65536).1 ≤ 65536) := uptoB_le _ _ _
  have HST : Hid (∀ k, k ≤ (uptoB b 0 65536).1 → (rdsR (uptoB b 0 65536).2.1 (uptoB b 0 65536).2.2 k).2.2 ≠ 0 → readTb b = ([], 4)) := fun k hk h => readTb_stop hk h
  have hfull := readTb_full b
  have HLL : Hid ((uptoB b 0 65536).2.1.length ≤ 10000) := by
    rw [Hid]
    unfold uptoB
    split
    · exact hlen
    · split
      · exact hlen
      · split <;> simp <;> omega
  generalize hres : readTb b = res at *
  generalize (uptoB b 0 65536).1 = N at *
  generalize (uptoB b 0 65536).2.1 = l1 at *
  generalize (uptoB b 0 65536).2.2 = e1 at *
  have HFL := Lib.hid hfull
  have hN : (N : Int) ≤ 65536 := by have := HNL.out; omega
  have hwN : IntKind.i64.wrap (N : Int) = (N : Int) := by rw [IntKind.wrap_i64]; omega
  have HLR : Hid (∀ k, (rdsR l1 e1 k).2.1.length ≤ 10000) := fun k => by
    induction k with
    | zero => exact HLL.out
    | succ k ih =>
      show (uptoB (rdsR l1 e1 k).2.1 (rdsR l1 e1 k).2.2 4096).2.1.length ≤ 10000
      generalize (rdsR l1 e1 k).2.1 = m at *
      unfold uptoB
      split
      · exact ih
      · split
        · exact ih
        · split <;> simp <;> omega
  clear hv hw0 hlen hfull hres hl46
  go_enter Try.func26, Try.ntmps26
  go_wp2_with fail
  rw [HW0.out]
  refine HNW.out.mono ?_
  rintro e w1 ⟨g, rfl, hgz, hr1, hb1⟩
  have HR1 : Hid (TbBox w1 w.heap.size (.slice none 0 0)) := HR0.out.below hb1
  have HB1 : Hid (Below w.heap.size w w1) := HB0.out.trans (hb1.mono HB0.out.size)
  have HG : Hid (w.heap.size + 1 ≤ g ∧ g < w1.heap.size) := ⟨by have := HZ0.out; omega, hr1.lt⟩
  have HRD1 := Lib.hid hr1
  clear hgz hr1 hb1
  go_wp2_with fail
  refine (HU0.out w1 g HRD1.out).mono ?_
  rintro e w2 ⟨rfl, hr2, hg2⟩
  obtain ⟨w3, hw3⟩ : ∃ w3, w2.alloc (.cells #[.slice none 0 0] 24) = w3 := ⟨_, rfl⟩
  have HW3 := Lib.hid hw3
  have HR2 : TbBox w2 w.heap.size (.slice none 0 0) := HR1.out.grown hg2 (by have := HG.out; omega)
  have HB2 : Below w.heap.size w w2 := HB1.out.grown hg2 HB1.out.size (fun k e => by cases e; have := HG.out; omega)
  have HR3 : Hid (TbBox w3 w.heap.size (.slice none 0 0)) := hw3 ▸ HR2.alloc _
  have HX3 : Hid (TbBox w3 w2.heap.size (.slice none 0 0)) := hw3 ▸ SBox.new w2 24 [.slice none 0 0]
  have HB3 : Hid (Below w.heap.size w w3) := hw3 ▸ HB2.alloc HB2.size _
  have HD3 : Hid (RRe w3 g l1 e1) := hw3 ▸ hr2.below (below_new w2 _)
  have HORD : Hid (w.heap.size + 1 ≤ g ∧ g < w2.heap.size) := ⟨HG.out.1, hr2.lt⟩
  clear hr2 hg2 HR2 HB2 hw3
  go_wp2_with fail
  rw [HW3.out]
  generalize w2.heap.size = bx at *
  go_loopw [7] (fun i wr => RrTbL w bx g N l1 e1 i wr) (fun i _ => N - (intOf i).toNat)
  case atStart => exact ⟨0, none, 0, 0, by omega, rfl, HR3.out, HX3.out, OwnV.nil _ _ _, HD3.out, HB3.out⟩
  case round =>
    obtain ⟨k, A, q, c, hk, rfl, hrr⟩ := hrel
    have HRR := Lib.hid hrr
    clear hrr
    by_cases hlt : k < N
    · have hkn : (k : Int) < (N : Int) := by omega
      have HLT : Hid (k < N) := hlt
      have hk65 : (k : Int) ≤ 65536 := by omega
      have HEC := Lib.hid (rr_err wr g _ _ HRR.out.rd)
      have HYL : Hid ((rdsR l1 e1 k).1.length ≤ 65536) := by rw [rdsR_len, Hid]; omega
      by_cases he : (rdsR l1 e1 k).2.2 = 0
      · have HUP : Hid (∀ W, RRe W g (rdsR l1 e1 k).2.1 (rdsR l1 e1 k).2.2 → Calls Try.prog 44 #[.pointer (some ⟨g, 0, none⟩), .int .u64 4096] W (RTold W g .u64 (uptoB (rdsR l1 e1 k).2.1 (rdsR l1 e1 k).2.2 4096).1 (uptoB (rdsR l1 e1 k).2.1 (rdsR l1 e1 k).2.2 4096).2.1 (uptoB (rdsR l1 e1 k).2.1 (rdsR l1 e1 k).2.2 4096).2.2)) := fun W h => rr_upto W g _ 4096 _ h (by have := HLR.out k; omega) (by omega)
        have HRK : Hid (rdsR l1 e1 (k + 1) = ((rdsR l1 e1 k).1 ++ [((uptoB (rdsR l1 e1 k).2.1 (rdsR l1 e1 k).2.2 4096).1 : Int)], (uptoB (rdsR l1 e1 k).2.1 (rdsR l1 e1 k).2.2 4096).2.1, (uptoB (rdsR l1 e1 k).2.1 (rdsR l1 e1 k).2.2 4096).2.2)) := rfl
        have hx := uptoB_le (rdsR l1 e1 k).2.1 (rdsR l1 e1 k).2.2 4096
        have HRS0 : Hid (TbBox wr w.heap.size (.slice none 0 0)) := HRR.out.res
        have HRX0 : Hid (TbBox wr bx (.slice A q c)) := HRR.out.box
        have HRO0 : Hid (OwnV wr (bx + 1) 3 (.slice A q c) (intC (rdsR l1 e1 k).1)) := HRR.out.own
        have HRB0 : Hid (Below w.heap.size w wr) := HRR.out.bel
        have HRD0 : Hid (RRe wr g (rdsR l1 e1 k).2.1 (rdsR l1 e1 k).2.2) := HRR.out.rd
        rw [he] at HEC
        clear HRR
        generalize (uptoB (rdsR l1 e1 k).2.1 (rdsR l1 e1 k).2.2 4096).1 = x at *
        generalize (uptoB (rdsR l1 e1 k).2.1 (rdsR l1 e1 k).2.2 4096).2.1 = lx at *
        generalize (uptoB (rdsR l1 e1 k).2.1 (rdsR l1 e1 k).2.2 4096).2.2 = ex at *
        generalize (rdsR l1 e1 k).1 = ys at *
        generalize (rdsR l1 e1 k).2.1 = ly at *
        generalize (rdsR l1 e1 k).2.2 = ey at *
        have HWX : Hid (IntKind.i64.wrap (x : Int) = (x : Int)) := by rw [Hid, IntKind.wrap_i64]; omega
        clear hx hlt hk he
        go_wp2_with fail
        refine HEC.out.mono ?_
        rintro e wr2 ⟨rfl, rfl⟩
        generalize wr = wr2 at *
        have HRS : Hid (TbBox wr2.drew w.heap.size (.slice none 0 0)) := HRS0.out
        have HRX : Hid (TbBox wr2.drew bx (.slice A q c)) := HRX0.out
        have HRO : Hid (OwnV wr2.drew (bx + 1) 3 (.slice A q c) (intC ys)) := HRO0.out
        have HRB : Hid (Below w.heap.size w wr2.drew) := HRB0.out.drew
        have HRD : Hid (RRe wr2.drew g ly ey) := HRD0.out.below (Below.refl _ _).drew
        clear HRS0 HRX0 HRO0 HRB0 HRD0 HEC
        go_wp2_with fail
        refine wp_region_T (R := fun x y => y.heap[bx]? = x.heap[bx]?) (by kernel_rfl) (fun _ => rfl) (fun h k => k.trans h) (by kernel_rfl) 8 rfl (by kernel_rfl) (by kernel_rfl) (fun d v c a w h => by cases d <;> exact h)
          [(0, false), (1, false), (2, false), (3, true), (4, false), (5, true), (6, true), (7, false)] rfl (by kernel_rfl) ?_
        simp only [sel, List.getElem?_toArray, List.getElem?_cons_succ, List.getElem?_cons_zero]
        generalize wr2.drew = wd at *
        (refine schT_take ?_ rfl ?_ ?_; rotate_left; (focus (intro u hu; go_simp <;> rfl)); simp only [Act.put, List.setIfInBounds_toArray, List.set_cons_zero, List.set_cons_succ])
        (refine schT_take ?_ rfl ?_ ?_; rotate_left; (focus (intro u hu; have c1 := TbBox.c0 (SBox.same HRX.out hu); clear hu; go_simp <;> rfl)); simp only [Act.put, List.setIfInBounds_toArray, List.set_cons_zero, List.set_cons_succ])
        (refine schT_take ?_ rfl ?_ ?_; rotate_left; (focus (intro u hu; go_simp <;> rfl)); simp only [Act.put, List.setIfInBounds_toArray, List.set_cons_zero, List.set_cons_succ])
        refine schT_call rfl ?_
        intro K hK
        go_simp
        refine (HUP.out wd HRD.out).mono ?_
        rintro e w6 ⟨rfl, hr6, hg6⟩
        go_wp2_with fail
        refine hK _ _ (hg6.block bx HRX.out.lt (by have := HORD.out; simp; omega)) ?_
        clear hK K
        have HS6 : Hid (TbBox w6 w.heap.size (.slice none 0 0)) := HRS.out.grown hg6 (by have := HORD.out; omega)
        have HX6 : Hid (TbBox w6 bx (.slice A q c)) := HRX.out.grown hg6 (by have := HORD.out; omega)
        have HO6 : Hid (OwnV w6 (bx + 1) 3 (.slice A q c) (intC ys)) := World.ownsRow.kept HRO.out hg6 (.inr (fun hk => by have := (World.ownsRow.lt HRO.out _ hk).1; have := HORD.out; omega))
        have HB6 : Hid (Below w.heap.size w w6) := HRB.out.grown hg6 HRB.out.size (fun k e => by cases e; have := HORD.out; omega)
        have HD6 := Lib.hid hr6
        clear hr6 hg6
        (refine schT_take ?_ rfl ?_ ?_; rotate_left; (focus (intro u hu; have hwx := HWX.out; go_simp <;> rfl)); simp only [Act.put, List.setIfInBounds_toArray, List.set_cons_zero, List.set_cons_succ])
        refine schT_call rfl ?_
        intro K hK
        go_simp
        refine hK _ _ (heap_alloc_old _ _ HX6.out.lt) ?_
        clear hK K
        obtain ⟨w7, hw7⟩ : ∃ u, w6.alloc (.cells #[.int .i64 (x : Int)] 3) = u := ⟨_, rfl⟩
        have hb7 : Below w6.heap.size w6 w7 := hw7 ▸ below_new _ _
        have HRW : Hid (Rowz w7 (.slice (some ⟨w6.heap.size, 0, none⟩) 1 1) [.int .i64 (x : Int)]) := hw7 ▸ Rowz.litV w6 [.int .i64 (x : Int)] 3 (by simp [maxLen])
        have HS7 : Hid (TbBox w7 w.heap.size (.slice none 0 0)) := HS6.out.below hb7
        have HX7 : Hid (TbBox w7 bx (.slice A q c)) := HX6.out.below hb7
        have HO7 : Hid (OwnV w7 (bx + 1) 3 (.slice A q c) (intC ys)) := HO6.out.keep hb7
        have HD7 := Lib.hid (HD6.out.below hb7)
        have HB7 : Hid (Below w.heap.size w w7) := HB6.out.trans (hb7.mono HB6.out.size)
        rw [hw7]
        clear hw7 hb7
        try simp only [Act.put, List.setIfInBounds_toArray, List.set_cons_zero, List.set_cons_succ]
        refine schT_call rfl ?_
        intro K hK
        obtain ⟨i0, hi0, hz0, hz1, hz2⟩ := info_parts iinfo
        refine wp_appV (.tmp 24) (.tmp 28) _ rfl (bx + 1) 3 8 i0 _ Try.underlying22 hi0 hz0 hz1 hz2 rfl _ (intC ys) rfl HO7.out _ [.int .i64 (x : Int)] rfl HRW.out (by simp [Value.oneCell']) (by have := HYL.out; rw [intC_len]; simp only [List.length_cons, List.length_nil]; omega) (by have := HYL.out; rw [intC_len]; simp only [List.length_cons, List.length_nil, maxLen]; omega) HX7.out.lt ?_
        intro v8 w8 ho hg hat
        refine hK _ _ (row_block HO7.out hg (Nat.lt_succ_self bx) HX7.out.lt) ?_
        clear hK K hat hi0 hz0 hz1 hz2 i0
        obtain ⟨A8, q8, c8, rfl, _, hn8, hc8⟩ := ho.rowz.form
        have HS8 : Hid (TbBox w8 w.heap.size (.slice none 0 0)) := SBox.rowgrown HS7.out HO7.out hg (by have := HORD.out; omega)
        have HX8 : Hid (TbBox w8 bx (.slice A q c)) := SBox.rowgrown HX7.out HO7.out hg (by omega)
        have HD8 := Lib.hid (HD7.out.rowgrown HO7.out hg (by have := HORD.out; omega))
        have HB8 : Hid (Below w.heap.size w w8) := Below.rowgrown HB7.out HO7.out hg (by have := HORD.out; omega) HB7.out.size
        have HO8 : Hid (OwnV w8 (bx + 1) 3 (.slice A8 q8 c8) (intC (ys ++ [(x : Int)]))) := by rw [Hid, intC_app]; exact ho
        clear ho hg
        try simp only [Act.put, List.setIfInBounds_toArray, List.set_cons_zero, List.set_cons_succ]
        (refine schT_take ?_ rfl ?_ ?_; rotate_left; (focus (intro u hu; go_simp <;> rfl)); simp only [Act.put, List.setIfInBounds_toArray, List.set_cons_zero, List.set_cons_succ])
        refine schT_nil ?_
        refine schT_last rfl rfl ?_
        refine wp_put1 22 _ _ rfl 0 (.slice A8 q8 c8) rfl rfl rfl intsInfo1 _ HX8.out.c0 (HX8.out.frozen 0) ?_
        intro w9 hw9
        have hg9 : w8.grownBy w9 (some bx) := by rw [hw9]; exact grown_set _ _ _ _
        have hrel9 : Hid (RrTb w bx g l1 e1 (k + 1) A8 q8 c8 w9) := ⟨HS8.out.grown hg9 (by have := HORD.out; omega), by rw [hw9]; exact SBox.put HX8.out 0 _, by
          rw [HRK.out]
          exact World.ownsRow.kept HO8.out hg9 (.inr (fun hk => by have := (World.ownsRow.lt HO8.out _ hk).1; omega)), by
          rw [HRK.out]
          exact HD8.out.keepG ((Below.refl _ _).grown hg9 (Nat.le_of_lt HD8.out.lt) (fun k e => by cases e; have := HORD.out; omega)) (hg9.block g HD8.out.lt (by have := HORD.out; simp; omega)), HB8.out.grown hg9 HB8.out.size (fun k e => by cases e; have := HORD.out; omega)⟩
        clear hw9 hg9
        go_wp2_with fail
        go_roundw
        case rel => exact ⟨k + 1, A8, q8, c8, by have := HLT.out; omega, by have := HNL.out; have := HLT.out; go_num, hrel9.out⟩
        case measure => have := HLT.out; simp [intOf]; omega
      · have hrs : res = ([], 4) := HST.out k hk he
        subst hrs
        have hee : (((rdsR l1 e1 k).2.2 : Int) == 0) = false := by simp; exact he
        have heq : endZ (rdsR l1 e1 k).2.1 (rdsR l1 e1 k).2.2 = (rdsR l1 e1 k).2.2 := by unfold endZ; rw [if_pos he]
        have HEN := Lib.hid (rr_end wr g _ _ HRR.out.rd)
        rw [heq] at HEN
        have hne : (((rdsR l1 e1 k).2.2 : Int) != 0) = true := by simp; exact he
        have HRE : Hid (TbBox wr w.heap.size (.slice none 0 0)) := HRR.out.res
        have HBE : Hid (Below w.heap.size w wr) := HRR.out.bel
        clear HRR
        generalize (rdsR l1 e1 k).1 = ys at *
        generalize (rdsR l1 e1 k).2.1 = ly at *
        generalize (rdsR l1 e1 k).2.2 = ey at *
        clear hlt hk he heq
        go_wp2_with fail
        refine HEC.out.mono ?_
        rintro e wr2 ⟨rfl, rfl⟩
        go_wp2_with fail
        refine HEN.out.mono ?_
        rintro e w6 ⟨rfl, hr6, hg6⟩
        have HR7 : Hid (TbBox w6 w.heap.size (.slice none 0 0)) := HRE.out.grown hg6 (by have := HORD.out; omega)
        have HB7 : Hid (Below w.heap.size w w6) := HBE.out.grown hg6 HBE.out.size (fun k e => by cases e; have := HORD.out; omega)
        clear hr6 hg6
        go_wp2_with (refine wpList_storeS HR7.out tbInfo rfl _ _ rfl rfl (ds := [.slice none 0 0]) rfl rfl (one_tb none 0 0) ?_; intro w9 hR9 hg9 hz9)
        refine ret_s2 hR9 Try.underlying24 tbInfo rfl rfl rfl _ rfl ?_
        exact ⟨_, rfl, RowO.nil _ _, HB7.out.grown hg9 HB7.out.size (fun k e => by cases e; omega)⟩
    · obtain rfl : N = k := by omega
      have hkn : ¬ ((N : Nat) : Int) < (N : Int) := by omega
      have HEN := Lib.hid (rr_end wr g _ _ HRR.out.rd)
      have HIN : Hid ((rdsR l1 e1 N).1.length ≤ 65536 ∧ inZ (rdsR l1 e1 N).1) := ⟨by rw [rdsR_len]; exact HNL.out, fun j => by have := rdsR_in l1 e1 N j; omega⟩
      have HXE : Hid (TbBox wr bx (.slice A q c)) := HRR.out.box
      have HRE : Hid (TbBox wr w.heap.size (.slice none 0 0)) := HRR.out.res
      have HOE : Hid (OwnV wr (bx + 1) 3 (.slice A q c) (intC (rdsR l1 e1 N).1)) := HRR.out.own
      have HBE : Hid (Below w.heap.size w wr) := HRR.out.bel
      have HDE := Lib.hid HRR.out.rd
      clear HRR
      generalize (rdsR l1 e1 N).2.1 = l3 at *
      generalize (rdsR l1 e1 N).2.2 = e3 at *
      generalize (rdsR l1 e1 N).1 = zs at *
      generalize endZ l3 e3 = E at *
      clear hlt hk
      by_cases hE : E = 0
      · subst hE
        by_cases hok : tbOk zs
        · have hrs : res = (zs, 0) := by rw [HFL.out, if_pos ⟨rfl, hok⟩]
          subst hrs
          have hck : chkT zs = 0 := if_pos hok
          have HCK := Lib.hid fun W (hW : TbIn W (.slice A q c) zs) => rcheck_any W _ zs hW
          rw [hck] at HCK
          clear hck hok
          go_wp2_with fail
          refine HEN.out.mono ?_
          rintro e w6 ⟨rfl, hr6, hg6⟩
          have HX6 : Hid (TbBox w6 bx (.slice A q c)) := HXE.out.grown hg6 (by have := HORD.out; omega)
          have HR6 : Hid (TbBox w6 w.heap.size (.slice none 0 0)) := HRE.out.grown hg6 (by have := HORD.out; omega)
          have HO6 : Hid (OwnV w6 (bx + 1) 3 (.slice A q c) (intC zs)) := World.ownsRow.kept HOE.out hg6 (.inr (fun hk => by have := (World.ownsRow.lt HOE.out _ hk).1; have := HORD.out; omega))
          have HB6 : Hid (Below w.heap.size w w6) := HBE.out.grown hg6 HBE.out.size (fun k e => by cases e; have := HORD.out; omega)
          clear hr6 hg6
          have c6 := HX6.out.c0
          go_wp2_with fail
          refine (HCK.out w6 ⟨HO6.out.rowz, HIN.out.1, HIN.out.2⟩).mono ?_
          rintro e w7 ⟨rfl, hb7⟩
          have HX7 : Hid (TbBox w7 bx (.slice A q c)) := HX6.out.below hb7
          have HR7 : Hid (TbBox w7 w.heap.size (.slice none 0 0)) := HR6.out.below hb7
          have HO7 : Hid (OwnV w7 (bx + 1) 3 (.slice A q c) (intC zs)) := HO6.out.keep hb7
          have HB7 : Hid (Below w.heap.size w w7) := HB6.out.trans (hb7.mono HB6.out.size)
          clear hb7 c6
          go_wp2_with (first
            | (refine wpList_loadS HX7.out Try.underlying24 tbInfo rfl _ rfl rfl ?_)
            | (refine wpList_storeS HR7.out tbInfo rfl _ _ rfl rfl (ds := [.slice A q c]) rfl rfl (one_tb _ _ _) ?_; intro w9 hR9 hg9 hz9))
          refine ret_s2 hR9 Try.underlying24 tbInfo rfl rfl rfl _ rfl ?_
          exact ⟨_, rfl, ((OwnV.rowO HO7.out).grown hg9 (by have := HORD.out; omega)).lower (by have := HORD.out; omega), HB7.out.grown hg9 HB7.out.size (fun k e => by cases e; omega)⟩
        · have hrs : res = ([], 4) := by rw [HFL.out, if_neg (fun h => hok h.2)]
          subst hrs
          have hck : chkT zs = 2 := if_neg hok
          have HCK := Lib.hid fun W (hW : TbIn W (.slice A q c) zs) => rcheck_any W _ zs hW
          rw [hck] at HCK
          clear hck hok
          go_wp2_with fail
          refine HEN.out.mono ?_
          rintro e w6 ⟨rfl, hr6, hg6⟩
          have HX6 : Hid (TbBox w6 bx (.slice A q c)) := HXE.out.grown hg6 (by have := HORD.out; omega)
          have HR6 : Hid (TbBox w6 w.heap.size (.slice none 0 0)) := HRE.out.grown hg6 (by have := HORD.out; omega)
          have HO6 : Hid (OwnV w6 (bx + 1) 3 (.slice A q c) (intC zs)) := World.ownsRow.kept HOE.out hg6 (.inr (fun hk => by have := (World.ownsRow.lt HOE.out _ hk).1; have := HORD.out; omega))
          have HB6 : Hid (Below w.heap.size w w6) := HBE.out.grown hg6 HBE.out.size (fun k e => by cases e; have := HORD.out; omega)
          clear hr6 hg6
          have c6 := HX6.out.c0
          go_wp2_with fail
          refine (HCK.out w6 ⟨HO6.out.rowz, HIN.out.1, HIN.out.2⟩).mono ?_
          rintro e w7 ⟨rfl, hb7⟩
          have HX7 : Hid (TbBox w7 bx (.slice A q c)) := HX6.out.below hb7
          have HR7 : Hid (TbBox w7 w.heap.size (.slice none 0 0)) := HR6.out.below hb7
          have HO7 : Hid (OwnV w7 (bx + 1) 3 (.slice A q c) (intC zs)) := HO6.out.keep hb7
          have HB7 : Hid (Below w.heap.size w w7) := HB6.out.trans (hb7.mono HB6.out.size)
          clear hb7 c6
          go_wp2_with (refine wpList_storeS HR7.out tbInfo rfl _ _ rfl rfl (ds := [.slice none 0 0]) rfl rfl (one_tb none 0 0) ?_; intro w9 hR9 hg9 hz9)
          refine ret_s2 hR9 Try.underlying24 tbInfo rfl rfl rfl _ rfl ?_
          exact ⟨_, rfl, RowO.nil _ _, HB7.out.grown hg9 HB7.out.size (fun k e => by cases e; omega)⟩
      · have hrs : res = ([], 4) := by rw [HFL.out, if_neg (fun h => hE h.1)]
        subst hrs
        have hEE : ((E : Int) != 0) = true := by simpa using hE
        clear hE
        go_wp2_with fail
        refine HEN.out.mono ?_
        rintro e w6 ⟨rfl, hr6, hg6⟩
        have HR7 : Hid (TbBox w6 w.heap.size (.slice none 0 0)) := HRE.out.grown hg6 (by have := HORD.out; omega)
        have HB7 : Hid (Below w.heap.size w w6) := HBE.out.grown hg6 HBE.out.size (fun k e => by cases e; have := HORD.out; omega)
        clear hr6 hg6
        go_wp2_with (refine wpList_storeS HR7.out tbInfo rfl _ _ rfl rfl (ds := [.slice none 0 0]) rfl rfl (one_tb none 0 0) ?_; intro w9 hR9 hg9 hz9)
        refine ret_s2 hR9 Try.underlying24 tbInfo rfl rfl rfl _ rfl ?_
        exact ⟨_, rfl, RowO.nil _ _, HB7.out.grown hg9 HB7.out.size (fun k e => by cases e; omega)⟩
end Go.Proofs.Ythakkaffjnkhgaa
