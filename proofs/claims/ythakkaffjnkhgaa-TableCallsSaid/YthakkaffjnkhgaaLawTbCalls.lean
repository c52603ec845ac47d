/-
  The statement TableCalls: what a table tells, and becomes, is what the document says. Conditions: none.
-/
import Derived.Test.YthakkaffjnkhgaaTbN
import Derived.Test.YthakkaffjnkhgaaTbR
namespace Go.Proofs.Ythakkaffjnkhgaa.tableCalls
open Go.ChangeShapes Go.WideShapes Go.ChangeAt Go.RowKit Go.Maps
set_option maxRecDepth 100000
set_option linter.unusedVariables false
set_option linter.unusedSimpArgs false

theorem dec_refl (l : List Int) : decide (l = l) = true := decide_eq_true rfl
theorem BytH.tbox {w w' : World} {v : Value} {l : List UInt8} {g n c : Nat} {A : Option Addr} (h : BytH w v l) (hs : TbBox w g (.slice A n c)) (hg : w.grownBy w' (some g)) : BytH w' v l :=
  Byt.keep h hg.size (fun b' hlt hex => hg.block b' hlt (by
    intro e
    cases e
    exact TbBox.noByte hs hex))
theorem set_tb (zs : List Int) (n p : Int) : tbOk (setT zs n p).1 := by
  unfold setT
  by_cases h : ¬ tbOk zs ∨ n < 0 ∨ 65536 ≤ n ∨ ¬ pgOk p
  · rw [if_pos h]; exact tbOk_nil
  · rw [if_neg h]
    by_cases hi : idxZ zs p < zs.length ∧ idxZ zs p ≠ n.toNat
    · rw [if_pos hi]; exact tbOk_nil
    · rw [if_neg hi]
      refine setL_ok ?_ ?_ ?_ hi
      · exact Classical.byContradiction fun hn => h (.inl hn)
      · have : ¬ 65536 ≤ n := fun hn => h (.inr (.inr (.inl hn)))
        omega
      · exact Classical.byContradiction fun hn => h (.inr (.inr (.inr hn)))
theorem clear_tb (zs : List Int) (n : Int) : tbOk (clearT zs n).1 := by
  unfold clearT
  by_cases h : ¬ tbOk zs
  · rw [if_pos h]; exact tbOk_nil
  · rw [if_neg h]
    have hok : tbOk zs := Classical.byContradiction h
    by_cases h0 : getT zs n = 0
    · rw [if_pos h0]; exact tbOk_nil
    · rw [if_neg h0]
      refine clear_ok hok (atZ_in (fun e => h0 ?_))
      unfold getT
      by_cases hn : tbOk zs ∧ 0 ≤ n
      · rw [if_pos hn]; exact e
      · rw [if_neg hn]
theorem read_tb (b : List UInt8) : tbOk (readTb b).1 := by
  rcases readTb_cases b with ⟨zs, h, hok⟩ | h
  · rw [h]; exact hok
  · rw [h]; exact tbOk_nil
set_option maxRecDepth 100000 in
set_option maxHeartbeats 16000000 in
theorem walk (w : World) (x0 : Value) (zs : List Int) (n p : Int) (v1 : Value) (bs : List UInt8) (b0 : Rowz w x0 (intC zs)) (z0 : inZ zs) (hn : -9223372036854775808 ≤ n ∧ n ≤ 9223372036854775807) (hp : -9223372036854775808 ≤ p ∧ p ≤ 9223372036854775807) (b1 : Byt w v1 bs) :
    Calls Try.prog 4 #[.agg #[x0], .int .i64 n, .int .i64 p, v1] w fun e w' => e = .returned (.bool true) ∧ Below w.heap.size w w' := by
  obtain ⟨A, m, c, rfl, N, hnc, hcm⟩ := b0.form
  obtain ⟨Ab, nb, cb, rfl, NB, hnb, hcb⟩ := b1.form
  have hm : m = zs.length := b0.lenZ
  obtain ⟨w1, hw1⟩ : ∃ u, w.alloc (.cells #[.slice A m c] 24) = u := ⟨_, rfl⟩
  have HW1 := Lib.hid hw1
  have HB1 : Hid (Below w.heap.size w w1) := hw1 ▸ below_new w _
  have St1 : Hid (TbBox w1 w.heap.size (.slice A m c)) := hw1 ▸ SBox.new w 24 [.slice A m c]
  clear hn hp
  by_cases hl : zs.length ≤ 400
  · have hm4 : (m : Int) ≤ 400 := by omega
    have hVT : TbIn w (.slice A m c) zs := ⟨b0, by omega, z0⟩
    have HVT := Lib.hid hVT
    have Tt1 : Hid (TbIn w1 (.slice A m c) zs) := hVT.below HB1.out
    have V1 : Hid (BytH w1 (.slice Ab nb cb) bs) := b1.below HB1.out
    have hnl : nb = bs.length := NB.out
    by_cases hb4 : bs.length ≤ 1000
    · have hnb4 : (nb : Int) ≤ 1000 := by omega
      by_cases hn3 : n ≤ 3000
      · have HL4 := Lib.hid hl
        have HNB := Lib.hid hb4
        have HN3 := Lib.hid hn3
        obtain ⟨gx, gb, hge⟩ : ∃ gx gb, (getT zs n, getOk zs n) = (gx, gb) := ⟨_, _, rfl⟩
        have HSO0 := set_tb zs n p
        have HCO0 := clear_tb zs n
        have HRO0 := read_tb bs
        obtain ⟨⟨s1, s2⟩, hse⟩ : ∃ r, setT zs n p = r := ⟨_, rfl⟩
        obtain ⟨⟨q1, q2⟩, hce⟩ : ∃ r, clearT zs n = r := ⟨_, rfl⟩
        obtain ⟨⟨f1, f2⟩, hfe⟩ : ∃ r, freshT zs = r := ⟨_, rfl⟩
        obtain ⟨⟨d1, d2⟩, hde⟩ : ∃ r, findT zs p = r := ⟨_, rfl⟩
        obtain ⟨⟨xs, x2⟩, hbe⟩ : ∃ r, bytesT zs = r := ⟨_, rfl⟩
        obtain ⟨⟨r1, r2⟩, hre⟩ : ∃ r, readTb bs = r := ⟨_, rfl⟩
        rw [hse] at HSO0
        rw [hce] at HCO0
        rw [hre] at HRO0
        have HSO : Hid (tbOk s1) := HSO0
        have HCO : Hid (tbOk q1) := HCO0
        have HRO : Hid (tbOk r1) := HRO0
        obtain ⟨ck, hck⟩ : ∃ ck, chkT zs = ck := ⟨_, rfl⟩
        obtain ⟨pg, hpg⟩ : ∃ pg, pagesT zs = pg := ⟨_, rfl⟩
        obtain ⟨L, hL⟩ : ∃ L, pg.length = L := ⟨_, rfl⟩
        have HCKE := Lib.hid hck
        have HPE := Lib.hid hpg
        have HPL := Lib.hid hL
        have HGE : Hid (getT zs n = getT zs n) := rfl
        have HSE := Lib.hid hse
        have HCE := Lib.hid hce
        have HFE := Lib.hid hfe
        have HDE := Lib.hid hde
        have HBE := Lib.hid hbe
        have HRE := Lib.hid hre
        clear b0 b1 hw1 hl hm hVT hb4 hnl HSO0 HCO0 HRO0 hse hce hfe hde hbe hre hge HGE hck hpg hL
        go_enter Try.func4, Try.ntmps4
        go_wp2_with fail
        rw [HW1.out]
        refine (lives10_any w1).mono ?_
        rintro e w2 ⟨rfl, hb2⟩
        have HB2 : Hid (Below w.heap.size w w2) := HB1.out.trans (hb2.mono HB1.out.size)
        have V2 : Hid (BytH w2 (.slice Ab nb cb) bs) := V1.out.below hb2
        have St2 : Hid (TbBox w2 (w.heap.size) (.slice A m c)) := St1.out.below hb2
        have Tt2 : Hid (TbIn w2 (.slice A m c) (zs)) := Tt1.out.below hb2
        clear hb2
        have pt := St2.out.c0
        go_wp2_with fail
        clear pt
        refine (tget_any w2 _ zs n Tt2.out).mono ?_
        rintro e w3 ⟨rfl, hb3⟩
        have HB3 : Hid (Below w.heap.size w w3) := HB2.out.trans (hb3.mono HB2.out.size)
        have V3 : Hid (BytH w3 (.slice Ab nb cb) bs) := V2.out.below hb3
        have St3 : Hid (TbBox w3 (w.heap.size) (.slice A m c)) := St2.out.below hb3
        have Tt3 : Hid (TbIn w3 (.slice A m c) (zs)) := Tt2.out.below hb3
        clear hb3
        have pt := St3.out.c0
        go_wp2_with fail
        clear pt
        refine (rget_any w3 _ zs n Tt3.out).mono ?_
        rintro e w4 ⟨rfl, hb4⟩
        have HB4 : Hid (Below w.heap.size w w4) := HB3.out.trans (hb4.mono HB3.out.size)
        have V4 : Hid (BytH w4 (.slice Ab nb cb) bs) := V3.out.below hb4
        have St4 : Hid (TbBox w4 (w.heap.size) (.slice A m c)) := St3.out.below hb4
        have Tt4 : Hid (TbIn w4 (.slice A m c) (zs)) := Tt3.out.below hb4
        clear hb4
        have pt := St4.out.c0
        go_wp2_with fail
        clear pt
        refine (HSE.out ▸ tset_any w4 _ zs n p Tt4.out).mono ?_
        rintro e w5 ⟨x5, rfl, hx5, hb5⟩
        obtain ⟨A5, n5, c5, rfl, N5, _, _⟩ := hx5.1.form
        have HB5 : Hid (Below w.heap.size w w5) := HB4.out.trans (hb5.mono HB4.out.size)
        have V5 : Hid (BytH w5 (.slice Ab nb cb) bs) := V4.out.below hb5
        have St5 : Hid (TbBox w5 (w.heap.size) (.slice A m c)) := St4.out.below hb5
        have Tt5 : Hid (TbIn w5 (.slice A m c) (zs)) := Tt4.out.below hb5
        obtain ⟨w6, hw6⟩ : ∃ u, (w5.alloc (.cells #[.slice A5 n5 c5] 24)) = u := ⟨_, rfl⟩
        have HW6 := Lib.hid hw6
        have hb6 : Below w5.heap.size w5 w6 := hw6 ▸ below_new _ _
        have HB6 : Hid (Below w.heap.size w w6) := HB5.out.trans (hb6.mono HB5.out.size)
        have V6 : Hid (BytH w6 (.slice Ab nb cb) bs) := V5.out.below hb6
        have St6 : Hid (TbBox w6 (w.heap.size) (.slice A m c)) := St5.out.below hb6
        have Tt6 : Hid (TbIn w6 (.slice A m c) (zs)) := Tt5.out.below hb6
        have Su6 : Hid (TbBox w6 w5.heap.size (.slice A5 n5 c5)) := hw6 ▸ SBox.new w5 24 [.slice A5 n5 c5]
        have Tu6 : Hid (TbIn w6 (.slice A5 n5 c5) (s1)) := tbin_of (hx5.1.below hb6) HSO.out
        clear hx5 hb5 hw6 hb6
        have pt : (w5.alloc (.cells #[.slice A5 n5 c5] 24)).cell? ⟨w.heap.size, 0, none⟩ = some (.slice A m c) := by rw [HW6.out]; exact St6.out.c0
        go_wp2_with fail
        rw [HW6.out]
        clear pt
        refine (HSE.out ▸ rset_any w6 _ zs n p Tt6.out HN3.out).mono ?_
        rintro e w7 ⟨x7, rfl, hx7, hb7⟩
        obtain ⟨A7, n7, c7, rfl, N7, _, _⟩ := hx7.1.form
        have HB7 : Hid (Below w.heap.size w w7) := HB6.out.trans (hb7.mono HB6.out.size)
        have V7 : Hid (BytH w7 (.slice Ab nb cb) bs) := V6.out.below hb7
        have St7 : Hid (TbBox w7 (w.heap.size) (.slice A m c)) := St6.out.below hb7
        have Tt7 : Hid (TbIn w7 (.slice A m c) (zs)) := Tt6.out.below hb7
        have Su7 : Hid (TbBox w7 (w5.heap.size) (.slice A5 n5 c5)) := Su6.out.below hb7
        have Tu7 : Hid (TbIn w7 (.slice A5 n5 c5) (s1)) := Tu6.out.below hb7
        obtain ⟨w8, hw8⟩ : ∃ u, (w7.alloc (.cells #[.slice A7 n7 c7] 24)) = u := ⟨_, rfl⟩
        have HW8 := Lib.hid hw8
        have hb8 : Below w7.heap.size w7 w8 := hw8 ▸ below_new _ _
        have HB8 : Hid (Below w.heap.size w w8) := HB7.out.trans (hb8.mono HB7.out.size)
        have V8 : Hid (BytH w8 (.slice Ab nb cb) bs) := V7.out.below hb8
        have St8 : Hid (TbBox w8 (w.heap.size) (.slice A m c)) := St7.out.below hb8
        have Tt8 : Hid (TbIn w8 (.slice A m c) (zs)) := Tt7.out.below hb8
        have Su8 : Hid (TbBox w8 (w5.heap.size) (.slice A5 n5 c5)) := Su7.out.below hb8
        have Tu8 : Hid (TbIn w8 (.slice A5 n5 c5) (s1)) := Tu7.out.below hb8
        have Sv8 : Hid (TbBox w8 w7.heap.size (.slice A7 n7 c7)) := hw8 ▸ SBox.new w7 24 [.slice A7 n7 c7]
        have Tv8 : Hid (TbIn w8 (.slice A7 n7 c7) (s1)) := tbin_of (hx7.1.below hb8) HSO.out
        clear hx7 hb7 hw8 hb8
        have pt : (w7.alloc (.cells #[.slice A7 n7 c7] 24)).cell? ⟨w.heap.size, 0, none⟩ = some (.slice A m c) := by rw [HW8.out]; exact St8.out.c0
        have pu : (w7.alloc (.cells #[.slice A7 n7 c7] 24)).cell? ⟨w5.heap.size, 0, none⟩ = some (.slice A5 n5 c5) := by rw [HW8.out]; exact Su8.out.c0
        go_wp2_with fail
        rw [HW8.out]
        clear pt pu
        have HAD : Hid (w.heap.size < w5.heap.size ∧ w5.heap.size < w7.heap.size) := ⟨St5.out.lt, Su7.out.lt⟩
        refine (dec_refl s1 ▸ zints_any w8 _ _ s1 s1 Tu8.out.row Tv8.out.row).mono ?_
        rintro e w9 ⟨rfl, hb9⟩
        have HB9 : Hid (Below w.heap.size w w9) := HB8.out.trans (hb9.mono HB8.out.size)
        have V9 : Hid (BytH w9 (.slice Ab nb cb) bs) := V8.out.below hb9
        have St9 : Hid (TbBox w9 (w.heap.size) (.slice A m c)) := St8.out.below hb9
        have Tt9 : Hid (TbIn w9 (.slice A m c) (zs)) := Tt8.out.below hb9
        have Su9 : Hid (TbBox w9 (w5.heap.size) (.slice A5 n5 c5)) := Su8.out.below hb9
        have Tu9 : Hid (TbIn w9 (.slice A5 n5 c5) (s1)) := Tu8.out.below hb9
        have Sv9 : Hid (TbBox w9 (w7.heap.size) (.slice A7 n7 c7)) := Sv8.out.below hb9
        have Tv9 : Hid (TbIn w9 (.slice A7 n7 c7) (s1)) := Tv8.out.below hb9
        clear hb9
        have pt := St9.out.c0
        have pu := Su9.out.c0
        have pv := Sv9.out.c0
        go_wp2_with fail
        clear pt pu pv
        refine (HCE.out ▸ tclear_any w9 _ zs n Tt9.out).mono ?_
        rintro e w10 ⟨x10, rfl, hx10, hb10⟩
        obtain ⟨A10, n10, c10, rfl, _, _, _⟩ := hx10.1.form
        have HB10 : Hid (Below w.heap.size w w10) := HB9.out.trans (hb10.mono HB9.out.size)
        have V10 : Hid (BytH w10 (.slice Ab nb cb) bs) := V9.out.below hb10
        have St10 : Hid (TbBox w10 (w.heap.size) (.slice A m c)) := St9.out.below hb10
        have Tt10 : Hid (TbIn w10 (.slice A m c) (zs)) := Tt9.out.below hb10
        have Su10 : Hid (TbBox w10 (w5.heap.size) (.slice A5 n5 c5)) := Su9.out.below hb10
        have Sv10 : Hid (TbBox w10 (w7.heap.size) (.slice A7 n7 c7)) := Sv9.out.below hb10
        have HX10 := Lib.hid hx10
        have HLT10 : Hid (w5.heap.size < w9.heap.size) := Su9.out.lt
        clear hx10 hb10
        have pt := St10.out.c0
        have pu := Su10.out.c0
        have pv := Sv10.out.c0
        go_wp2_with (refine wpList_storeS Su10.out tbInfo rfl _ _ rfl rfl (ds := [.slice A10 n10 c10]) rfl rfl (one_tb _ _ _) ?_; intro w11 hs hg hz
                     have HB11 : Hid (Below w.heap.size w w11) := HB10.out.grown hg HB10.out.size (fun k e => by cases e; have := HAD.out; omega)
                     have Su11 : Hid (TbBox w11 (w5.heap.size) (.slice A10 n10 c10)) := hs
                     have Ru11 : Hid (RowO w11 w9.heap.size (.slice A10 n10 c10) (q1)) := HX10.out.grown hg HLT10.out
                     have Tu11 : Hid (TbIn w11 (.slice A10 n10 c10) (q1)) := tbin_of Ru11.out.1 HCO.out
                     have Tt11 : Hid (TbIn w11 (.slice A m c) zs) := HVT.out.below HB11.out
                     have St11 : Hid (TbBox w11 (w.heap.size) (.slice A m c)) := St10.out.grown hg (by have := HAD.out; omega)
                     have Sv11 : Hid (TbBox w11 (w7.heap.size) (.slice A7 n7 c7)) := Sv10.out.grown hg (by have := HAD.out; omega)
                     have V11 : Hid (BytH w11 (.slice Ab nb cb) bs) := BytH.tbox V10.out Su10.out hg
                     clear hs hg hz
                     clear pt pu pv
                     have pt := St11.out.c0
                     have pu := Su11.out.c0
                     have pv := Sv11.out.c0)
        clear pt pu pv
        have HLAu : Hid (w7.heap.size < w9.heap.size) := Sv9.out.lt
        refine (HCE.out ▸ rclear_any w11 _ zs n Tt11.out).mono ?_
        rintro e w12 ⟨x12, rfl, hx12, hb12⟩
        obtain ⟨A12, n12, c12, rfl, _, _, _⟩ := hx12.1.form
        have HB12 : Hid (Below w.heap.size w w12) := HB11.out.trans (hb12.mono HB11.out.size)
        have V12 : Hid (BytH w12 (.slice Ab nb cb) bs) := V11.out.below hb12
        have Ru12 : Hid (RowO w12 w9.heap.size (.slice A10 n10 c10) (q1)) := Ru11.out.below hb12
        have St12 : Hid (TbBox w12 (w.heap.size) (.slice A m c)) := St11.out.below hb12
        have Tt12 : Hid (TbIn w12 (.slice A m c) (zs)) := Tt11.out.below hb12
        have Su12 : Hid (TbBox w12 (w5.heap.size) (.slice A10 n10 c10)) := Su11.out.below hb12
        have Tu12 : Hid (TbIn w12 (.slice A10 n10 c10) (q1)) := Tu11.out.below hb12
        have Sv12 : Hid (TbBox w12 (w7.heap.size) (.slice A7 n7 c7)) := Sv11.out.below hb12
        have HX12 := Lib.hid hx12
        have HLT12 : Hid (w7.heap.size < w11.heap.size) := Sv11.out.lt
        clear hx12 hb12
        have pt := St12.out.c0
        have pu := Su12.out.c0
        have pv := Sv12.out.c0
        go_wp2_with (refine wpList_storeS Sv12.out tbInfo rfl _ _ rfl rfl (ds := [.slice A12 n12 c12]) rfl rfl (one_tb _ _ _) ?_; intro w13 hs hg hz
                     have HB13 : Hid (Below w.heap.size w w13) := HB12.out.grown hg HB12.out.size (fun k e => by cases e; have := HAD.out; omega)
                     have Sv13 : Hid (TbBox w13 (w7.heap.size) (.slice A12 n12 c12)) := hs
                     have Rv13 : Hid (RowO w13 w11.heap.size (.slice A12 n12 c12) (q1)) := HX12.out.grown hg HLT12.out
                     have Tv13 : Hid (TbIn w13 (.slice A12 n12 c12) (q1)) := tbin_of Rv13.out.1 HCO.out
                     have Tt13 : Hid (TbIn w13 (.slice A m c) zs) := HVT.out.below HB13.out
                     have St13 : Hid (TbBox w13 (w.heap.size) (.slice A m c)) := St12.out.grown hg (by have := HAD.out; omega)
                     have Su13 : Hid (TbBox w13 (w5.heap.size) (.slice A10 n10 c10)) := Su12.out.grown hg (by have := HAD.out; omega)
                     have V13 : Hid (BytH w13 (.slice Ab nb cb) bs) := BytH.tbox V12.out Sv12.out hg
                     have Ru13 : Hid (RowO w13 w9.heap.size (.slice A10 n10 c10) (q1)) := Ru12.out.grown hg (by have := HLAu.out; omega)
                     have Tu13 : Hid (TbIn w13 (.slice A10 n10 c10) (q1)) := tbin_of Ru13.out.1 HCO.out
                     clear hs hg hz
                     clear pt pu pv
                     have pt := St13.out.c0
                     have pu := Su13.out.c0
                     have pv := Sv13.out.c0)
        clear pt pu pv
        refine (HFE.out ▸ tfresh_any w13 _ zs Tt13.out).mono ?_
        rintro e w14 ⟨rfl, hb14⟩
        have HB14 : Hid (Below w.heap.size w w14) := HB13.out.trans (hb14.mono HB13.out.size)
        have V14 : Hid (BytH w14 (.slice Ab nb cb) bs) := V13.out.below hb14
        have Ru14 : Hid (RowO w14 w9.heap.size (.slice A10 n10 c10) (q1)) := Ru13.out.below hb14
        have Rv14 : Hid (RowO w14 w11.heap.size (.slice A12 n12 c12) (q1)) := Rv13.out.below hb14
        have St14 : Hid (TbBox w14 (w.heap.size) (.slice A m c)) := St13.out.below hb14
        have Tt14 : Hid (TbIn w14 (.slice A m c) (zs)) := Tt13.out.below hb14
        have Su14 : Hid (TbBox w14 (w5.heap.size) (.slice A10 n10 c10)) := Su13.out.below hb14
        have Tu14 : Hid (TbIn w14 (.slice A10 n10 c10) (q1)) := Tu13.out.below hb14
        have Sv14 : Hid (TbBox w14 (w7.heap.size) (.slice A12 n12 c12)) := Sv13.out.below hb14
        have Tv14 : Hid (TbIn w14 (.slice A12 n12 c12) (q1)) := Tv13.out.below hb14
        clear hb14
        have pt := St14.out.c0
        have pu := Su14.out.c0
        have pv := Sv14.out.c0
        go_wp2_with fail
        clear pt pu pv
        refine (HFE.out ▸ rfresh_any w14 _ zs Tt14.out HL4.out).mono ?_
        rintro e w15 ⟨rfl, hb15⟩
        have HB15 : Hid (Below w.heap.size w w15) := HB14.out.trans (hb15.mono HB14.out.size)
        have V15 : Hid (BytH w15 (.slice Ab nb cb) bs) := V14.out.below hb15
        have Ru15 : Hid (RowO w15 w9.heap.size (.slice A10 n10 c10) (q1)) := Ru14.out.below hb15
        have Rv15 : Hid (RowO w15 w11.heap.size (.slice A12 n12 c12) (q1)) := Rv14.out.below hb15
        have St15 : Hid (TbBox w15 (w.heap.size) (.slice A m c)) := St14.out.below hb15
        have Tt15 : Hid (TbIn w15 (.slice A m c) (zs)) := Tt14.out.below hb15
        have Su15 : Hid (TbBox w15 (w5.heap.size) (.slice A10 n10 c10)) := Su14.out.below hb15
        have Tu15 : Hid (TbIn w15 (.slice A10 n10 c10) (q1)) := Tu14.out.below hb15
        have Sv15 : Hid (TbBox w15 (w7.heap.size) (.slice A12 n12 c12)) := Sv14.out.below hb15
        have Tv15 : Hid (TbIn w15 (.slice A12 n12 c12) (q1)) := Tv14.out.below hb15
        clear hb15
        have pt := St15.out.c0
        have pu := Su15.out.c0
        have pv := Sv15.out.c0
        go_wp2_with fail
        clear pt pu pv
        refine (dec_refl q1 ▸ zints_any w15 _ _ q1 q1 Tu15.out.row Tv15.out.row).mono ?_
        rintro e w16 ⟨rfl, hb16⟩
        have HB16 : Hid (Below w.heap.size w w16) := HB15.out.trans (hb16.mono HB15.out.size)
        have V16 : Hid (BytH w16 (.slice Ab nb cb) bs) := V15.out.below hb16
        have Ru16 : Hid (RowO w16 w9.heap.size (.slice A10 n10 c10) (q1)) := Ru15.out.below hb16
        have Rv16 : Hid (RowO w16 w11.heap.size (.slice A12 n12 c12) (q1)) := Rv15.out.below hb16
        have St16 : Hid (TbBox w16 (w.heap.size) (.slice A m c)) := St15.out.below hb16
        have Tt16 : Hid (TbIn w16 (.slice A m c) (zs)) := Tt15.out.below hb16
        have Su16 : Hid (TbBox w16 (w5.heap.size) (.slice A10 n10 c10)) := Su15.out.below hb16
        have Tu16 : Hid (TbIn w16 (.slice A10 n10 c10) (q1)) := Tu15.out.below hb16
        have Sv16 : Hid (TbBox w16 (w7.heap.size) (.slice A12 n12 c12)) := Sv15.out.below hb16
        have Tv16 : Hid (TbIn w16 (.slice A12 n12 c12) (q1)) := Tv15.out.below hb16
        clear hb16
        have pt := St16.out.c0
        have pu := Su16.out.c0
        have pv := Sv16.out.c0
        go_wp2_with fail
        clear pt pu pv
        refine (HDE.out ▸ tfind_any w16 _ zs p Tt16.out).mono ?_
        rintro e w17 ⟨rfl, hb17⟩
        have HB17 : Hid (Below w.heap.size w w17) := HB16.out.trans (hb17.mono HB16.out.size)
        have V17 : Hid (BytH w17 (.slice Ab nb cb) bs) := V16.out.below hb17
        have Ru17 : Hid (RowO w17 w9.heap.size (.slice A10 n10 c10) (q1)) := Ru16.out.below hb17
        have Rv17 : Hid (RowO w17 w11.heap.size (.slice A12 n12 c12) (q1)) := Rv16.out.below hb17
        have St17 : Hid (TbBox w17 (w.heap.size) (.slice A m c)) := St16.out.below hb17
        have Tt17 : Hid (TbIn w17 (.slice A m c) (zs)) := Tt16.out.below hb17
        have Su17 : Hid (TbBox w17 (w5.heap.size) (.slice A10 n10 c10)) := Su16.out.below hb17
        have Tu17 : Hid (TbIn w17 (.slice A10 n10 c10) (q1)) := Tu16.out.below hb17
        have Sv17 : Hid (TbBox w17 (w7.heap.size) (.slice A12 n12 c12)) := Sv16.out.below hb17
        have Tv17 : Hid (TbIn w17 (.slice A12 n12 c12) (q1)) := Tv16.out.below hb17
        clear hb17
        have pt := St17.out.c0
        have pu := Su17.out.c0
        have pv := Sv17.out.c0
        go_wp2_with fail
        clear pt pu pv
        refine (HDE.out ▸ rfind_any10 w17 _ zs p Tt17.out).mono ?_
        rintro e w18 ⟨rfl, hb18⟩
        have HB18 : Hid (Below w.heap.size w w18) := HB17.out.trans (hb18.mono HB17.out.size)
        have V18 : Hid (BytH w18 (.slice Ab nb cb) bs) := V17.out.below hb18
        have Ru18 : Hid (RowO w18 w9.heap.size (.slice A10 n10 c10) (q1)) := Ru17.out.below hb18
        have Rv18 : Hid (RowO w18 w11.heap.size (.slice A12 n12 c12) (q1)) := Rv17.out.below hb18
        have St18 : Hid (TbBox w18 (w.heap.size) (.slice A m c)) := St17.out.below hb18
        have Tt18 : Hid (TbIn w18 (.slice A m c) (zs)) := Tt17.out.below hb18
        have Su18 : Hid (TbBox w18 (w5.heap.size) (.slice A10 n10 c10)) := Su17.out.below hb18
        have Tu18 : Hid (TbIn w18 (.slice A10 n10 c10) (q1)) := Tu17.out.below hb18
        have Sv18 : Hid (TbBox w18 (w7.heap.size) (.slice A12 n12 c12)) := Sv17.out.below hb18
        have Tv18 : Hid (TbIn w18 (.slice A12 n12 c12) (q1)) := Tv17.out.below hb18
        clear hb18
        have pt := St18.out.c0
        have pu := Su18.out.c0
        have pv := Sv18.out.c0
        go_wp2_with fail
        clear pt pu pv
        refine (HBE.out ▸ tbytes_any w18 _ zs Tt18.out).mono ?_
        rintro e w19 ⟨y19, rfl, hy19, hb19⟩
        obtain ⟨Ay, ny, cy, rfl, NY, hny, hcy⟩ := hy19.byt.form
        have HB19 : Hid (Below w.heap.size w w19) := HB18.out.trans (hb19.mono HB18.out.size)
        have V19 : Hid (BytH w19 (.slice Ab nb cb) bs) := V18.out.below hb19
        have Ru19 : Hid (RowO w19 w9.heap.size (.slice A10 n10 c10) (q1)) := Ru18.out.below hb19
        have Rv19 : Hid (RowO w19 w11.heap.size (.slice A12 n12 c12) (q1)) := Rv18.out.below hb19
        have St19 : Hid (TbBox w19 (w.heap.size) (.slice A m c)) := St18.out.below hb19
        have Tt19 : Hid (TbIn w19 (.slice A m c) (zs)) := Tt18.out.below hb19
        have Su19 : Hid (TbBox w19 (w5.heap.size) (.slice A10 n10 c10)) := Su18.out.below hb19
        have Tu19 : Hid (TbIn w19 (.slice A10 n10 c10) (q1)) := Tu18.out.below hb19
        have Sv19 : Hid (TbBox w19 (w7.heap.size) (.slice A12 n12 c12)) := Sv18.out.below hb19
        have Tv19 : Hid (TbIn w19 (.slice A12 n12 c12) (q1)) := Tv18.out.below hb19
        have Y19 : Hid (BytH w19 (.slice Ay ny cy) xs) := hy19.byt
        clear hb19
        have pt := St19.out.c0
        have pu := Su19.out.c0
        have pv := Sv19.out.c0
        go_wp2_with fail
        clear pt pu pv
        refine (HBE.out ▸ rbytes_any w19 _ zs Tt19.out).mono ?_
        rintro e w20 ⟨y20, rfl, hy20, hb20⟩
        obtain ⟨Az, nz, cz, rfl, NZ, hnz, hcz⟩ := hy20.byt.form
        have HB20 : Hid (Below w.heap.size w w20) := HB19.out.trans (hb20.mono HB19.out.size)
        have V20 : Hid (BytH w20 (.slice Ab nb cb) bs) := V19.out.below hb20
        have Ru20 : Hid (RowO w20 w9.heap.size (.slice A10 n10 c10) (q1)) := Ru19.out.below hb20
        have Rv20 : Hid (RowO w20 w11.heap.size (.slice A12 n12 c12) (q1)) := Rv19.out.below hb20
        have Y20 : Hid (BytH w20 (.slice Ay ny cy) xs) := Y19.out.below hb20
        have St20 : Hid (TbBox w20 (w.heap.size) (.slice A m c)) := St19.out.below hb20
        have Tt20 : Hid (TbIn w20 (.slice A m c) (zs)) := Tt19.out.below hb20
        have Su20 : Hid (TbBox w20 (w5.heap.size) (.slice A10 n10 c10)) := Su19.out.below hb20
        have Tu20 : Hid (TbIn w20 (.slice A10 n10 c10) (q1)) := Tu19.out.below hb20
        have Sv20 : Hid (TbBox w20 (w7.heap.size) (.slice A12 n12 c12)) := Sv19.out.below hb20
        have Tv20 : Hid (TbIn w20 (.slice A12 n12 c12) (q1)) := Tv19.out.below hb20
        have Z20 : Hid (BytH w20 (.slice Az nz cz) xs) := hy20.byt
        clear hb20
        have pt := St20.out.c0
        have pu := Su20.out.c0
        have pv := Sv20.out.c0
        go_wp2_with fail
        clear pt pu pv
        refine (kitown_any w20 (.slice Ab nb cb) bs V20.out (by have := HNB.out; omega)).mono ?_
        rintro e w21 ⟨o21, rfl, ho21, hb21⟩
        have HB21 : Hid (Below w.heap.size w w21) := HB20.out.trans (hb21.mono HB20.out.size)
        have V21 : Hid (BytH w21 (.slice Ab nb cb) bs) := V20.out.below hb21
        have Ru21 : Hid (RowO w21 w9.heap.size (.slice A10 n10 c10) (q1)) := Ru20.out.below hb21
        have Rv21 : Hid (RowO w21 w11.heap.size (.slice A12 n12 c12) (q1)) := Rv20.out.below hb21
        have Y21 : Hid (BytH w21 (.slice Ay ny cy) xs) := Y20.out.below hb21
        have Z21 : Hid (BytH w21 (.slice Az nz cz) xs) := Z20.out.below hb21
        have St21 : Hid (TbBox w21 (w.heap.size) (.slice A m c)) := St20.out.below hb21
        have Tt21 : Hid (TbIn w21 (.slice A m c) (zs)) := Tt20.out.below hb21
        have Su21 : Hid (TbBox w21 (w5.heap.size) (.slice A10 n10 c10)) := Su20.out.below hb21
        have Tu21 : Hid (TbIn w21 (.slice A10 n10 c10) (q1)) := Tu20.out.below hb21
        have Sv21 : Hid (TbBox w21 (w7.heap.size) (.slice A12 n12 c12)) := Sv20.out.below hb21
        have Tv21 : Hid (TbIn w21 (.slice A12 n12 c12) (q1)) := Tv20.out.below hb21
        have O21 : Hid (BytH w21 o21 bs) := ho21.byt
        clear hb21
        have pt := St21.out.c0
        have pu := Su21.out.c0
        have pv := Sv21.out.c0
        go_wp2_with fail
        clear pt pu pv
        refine (HRE.out ▸ tread_any w21 _ bs O21.out (by have := HNB.out; omega)).mono ?_
        rintro e w22 ⟨x22, rfl, hx22, hb22⟩
        obtain ⟨A22, n22, c22, rfl, _, _, _⟩ := hx22.1.form
        have HB22 : Hid (Below w.heap.size w w22) := HB21.out.trans (hb22.mono HB21.out.size)
        have V22 : Hid (BytH w22 (.slice Ab nb cb) bs) := V21.out.below hb22
        have Ru22 : Hid (RowO w22 w9.heap.size (.slice A10 n10 c10) (q1)) := Ru21.out.below hb22
        have Rv22 : Hid (RowO w22 w11.heap.size (.slice A12 n12 c12) (q1)) := Rv21.out.below hb22
        have Y22 : Hid (BytH w22 (.slice Ay ny cy) xs) := Y21.out.below hb22
        have Z22 : Hid (BytH w22 (.slice Az nz cz) xs) := Z21.out.below hb22
        have St22 : Hid (TbBox w22 (w.heap.size) (.slice A m c)) := St21.out.below hb22
        have Tt22 : Hid (TbIn w22 (.slice A m c) (zs)) := Tt21.out.below hb22
        have Su22 : Hid (TbBox w22 (w5.heap.size) (.slice A10 n10 c10)) := Su21.out.below hb22
        have Sv22 : Hid (TbBox w22 (w7.heap.size) (.slice A12 n12 c12)) := Sv21.out.below hb22
        have HX22 := Lib.hid hx22
        have HLT22 : Hid (w5.heap.size < w21.heap.size) := Su21.out.lt
        clear hx22 hb22
        have pt := St22.out.c0
        have pu := Su22.out.c0
        have pv := Sv22.out.c0
        go_wp2_with (refine wpList_storeS Su22.out tbInfo rfl _ _ rfl rfl (ds := [.slice A22 n22 c22]) rfl rfl (one_tb _ _ _) ?_; intro w23 hs hg hz
                     have HB23 : Hid (Below w.heap.size w w23) := HB22.out.grown hg HB22.out.size (fun k e => by cases e; have := HAD.out; omega)
                     have Su23 : Hid (TbBox w23 (w5.heap.size) (.slice A22 n22 c22)) := hs
                     have Ru23 : Hid (RowO w23 w21.heap.size (.slice A22 n22 c22) (r1)) := HX22.out.grown hg HLT22.out
                     have Tu23 : Hid (TbIn w23 (.slice A22 n22 c22) (r1)) := tbin_of Ru23.out.1 HRO.out
                     have Tt23 : Hid (TbIn w23 (.slice A m c) zs) := HVT.out.below HB23.out
                     have St23 : Hid (TbBox w23 (w.heap.size) (.slice A m c)) := St22.out.grown hg (by have := HAD.out; omega)
                     have Sv23 : Hid (TbBox w23 (w7.heap.size) (.slice A12 n12 c12)) := Sv22.out.grown hg (by have := HAD.out; omega)
                     have V23 : Hid (BytH w23 (.slice Ab nb cb) bs) := BytH.tbox V22.out Su22.out hg
                     have Y23 : Hid (BytH w23 (.slice Ay ny cy) xs) := BytH.tbox Y22.out Su22.out hg
                     have Z23 : Hid (BytH w23 (.slice Az nz cz) xs) := BytH.tbox Z22.out Su22.out hg
                     clear hs hg hz
                     clear pt pu pv
                     have pt := St23.out.c0
                     have pu := Su23.out.c0
                     have pv := Sv23.out.c0)
        clear pt pu pv
        replace HLAu : Hid (w7.heap.size < w21.heap.size) := Sv21.out.lt
        refine (HRE.out ▸ rread_any w23 _ bs V23.out (by have := HNB.out; omega)).mono ?_
        rintro e w24 ⟨x24, rfl, hx24, hb24⟩
        obtain ⟨A24, n24, c24, rfl, _, _, _⟩ := hx24.1.form
        have HB24 : Hid (Below w.heap.size w w24) := HB23.out.trans (hb24.mono HB23.out.size)
        have V24 : Hid (BytH w24 (.slice Ab nb cb) bs) := V23.out.below hb24
        have Y24 : Hid (BytH w24 (.slice Ay ny cy) xs) := Y23.out.below hb24
        have Z24 : Hid (BytH w24 (.slice Az nz cz) xs) := Z23.out.below hb24
        have Ru24 : Hid (RowO w24 w21.heap.size (.slice A22 n22 c22) (r1)) := Ru23.out.below hb24
        have St24 : Hid (TbBox w24 (w.heap.size) (.slice A m c)) := St23.out.below hb24
        have Tt24 : Hid (TbIn w24 (.slice A m c) (zs)) := Tt23.out.below hb24
        have Su24 : Hid (TbBox w24 (w5.heap.size) (.slice A22 n22 c22)) := Su23.out.below hb24
        have Tu24 : Hid (TbIn w24 (.slice A22 n22 c22) (r1)) := Tu23.out.below hb24
        have Sv24 : Hid (TbBox w24 (w7.heap.size) (.slice A12 n12 c12)) := Sv23.out.below hb24
        have HX24 := Lib.hid hx24
        have HLT24 : Hid (w7.heap.size < w23.heap.size) := Sv23.out.lt
        clear hx24 hb24
        have pt := St24.out.c0
        have pu := Su24.out.c0
        have pv := Sv24.out.c0
        go_wp2_with (refine wpList_storeS Sv24.out tbInfo rfl _ _ rfl rfl (ds := [.slice A24 n24 c24]) rfl rfl (one_tb _ _ _) ?_; intro w25 hs hg hz
                     have HB25 : Hid (Below w.heap.size w w25) := HB24.out.grown hg HB24.out.size (fun k e => by cases e; have := HAD.out; omega)
                     have Sv25 : Hid (TbBox w25 (w7.heap.size) (.slice A24 n24 c24)) := hs
                     have Rv25 : Hid (RowO w25 w23.heap.size (.slice A24 n24 c24) (r1)) := HX24.out.grown hg HLT24.out
                     have Tv25 : Hid (TbIn w25 (.slice A24 n24 c24) (r1)) := tbin_of Rv25.out.1 HRO.out
                     have Tt25 : Hid (TbIn w25 (.slice A m c) zs) := HVT.out.below HB25.out
                     have St25 : Hid (TbBox w25 (w.heap.size) (.slice A m c)) := St24.out.grown hg (by have := HAD.out; omega)
                     have Su25 : Hid (TbBox w25 (w5.heap.size) (.slice A22 n22 c22)) := Su24.out.grown hg (by have := HAD.out; omega)
                     have V25 : Hid (BytH w25 (.slice Ab nb cb) bs) := BytH.tbox V24.out Sv24.out hg
                     have Y25 : Hid (BytH w25 (.slice Ay ny cy) xs) := BytH.tbox Y24.out Sv24.out hg
                     have Z25 : Hid (BytH w25 (.slice Az nz cz) xs) := BytH.tbox Z24.out Sv24.out hg
                     have Ru25 : Hid (RowO w25 w21.heap.size (.slice A22 n22 c22) (r1)) := Ru24.out.grown hg (by have := HLAu.out; omega)
                     have Tu25 : Hid (TbIn w25 (.slice A22 n22 c22) (r1)) := tbin_of Ru25.out.1 HRO.out
                     clear hs hg hz
                     clear pt pu pv
                     have pt := St25.out.c0
                     have pu := Su25.out.c0
                     have pv := Sv25.out.c0)
        clear pt pu pv
        have StD : Hid (TbBox w25.drew (w.heap.size) (.slice A m c)) := St25.out
        have TtD : Hid (TbIn w25.drew (.slice A m c) zs) := Tt25.out.below (Below.refl _ _).drew
        have SuD : Hid (TbBox w25.drew (w5.heap.size) (.slice A22 n22 c22)) := Su25.out
        have TuD : Hid (TbIn w25.drew (.slice A22 n22 c22) r1) := Tu25.out.below (Below.refl _ _).drew
        have SvD : Hid (TbBox w25.drew (w7.heap.size) (.slice A24 n24 c24)) := Sv25.out
        have TvD : Hid (TbIn w25.drew (.slice A24 n24 c24) r1) := Tv25.out.below (Below.refl _ _).drew
        have YD : Hid (BytH w25.drew (.slice Ay ny cy) xs) := Y25.out
        have ZD : Hid (BytH w25.drew (.slice Az nz cz) xs) := Z25.out
        have HBD : Hid (Below w.heap.size w w25.drew) := HB25.out.drew
        refine wp_region_R (R := fun x y => Below x.heap.size x y) (by kernel_rfl) (fun _ => Below.refl _ _) (fun h k => h.trans (k.mono h.size)) (by kernel_rfl) (fun d v c a w h => by cases d <;> exact h)
          [(0, false), (1, false), (2, false), (3, false), (4, false), (5, false), (6, false), (7, false), (8, false), (9, false), (10, false), (11, false), (12, false), (13, false), (14, false), (15, false), (16, false), (17, false), (18, false), (19, false), (20, false), (21, false), (22, false), (23, false), (24, false), (25, true), (26, false), (27, false), (28, false), (29, false), (30, false), (31, false), (32, false), (33, false), (35, false), (34, true), (36, true), (37, false), (38, false), (39, false), (40, false), (42, false), (41, true), (43, true), (44, true), (45, false), (46, false), (47, false), (49, false), (48, true), (50, true), (51, false), (52, false), (53, false), (54, false)] rfl (by kernel_rfl) (by kernel_rfl) ?_
        simp only [sel, List.getElem?_toArray, List.getElem?_cons_succ, List.getElem?_cons_zero]
        generalize w25.drew = wd at *
        iterate 10 (refine sch_take ?_ rfl ?_ ?_; rotate_left; (focus (intro u hu; go_simp <;> rfl)); simp only [Act.put, List.setIfInBounds_toArray, List.set_cons_zero, List.set_cons_succ])
        (refine sch_take ?_ rfl ?_ ?_; rotate_left; (focus (intro u hu; have tx := text_of (show Byt u _ _ from BytH.below YD.out hu); clear hu; go_simp <;> rfl)); simp only [Act.put, List.setIfInBounds_toArray, List.set_cons_zero, List.set_cons_succ])
        (refine sch_take ?_ rfl ?_ ?_; rotate_left; (focus (intro u hu; go_simp <;> rfl)); simp only [Act.put, List.setIfInBounds_toArray, List.set_cons_zero, List.set_cons_succ])
        (refine sch_take ?_ rfl ?_ ?_; rotate_left; (focus (intro u hu; have tx := text_of (show Byt u _ _ from BytH.below ZD.out hu); clear hu; go_simp <;> rfl)); simp only [Act.put, List.setIfInBounds_toArray, List.set_cons_zero, List.set_cons_succ])
        iterate 9 (refine sch_take ?_ rfl ?_ ?_; rotate_left; (focus (intro u hu; go_simp <;> rfl)); simp only [Act.put, List.setIfInBounds_toArray, List.set_cons_zero, List.set_cons_succ])
        (refine sch_take ?_ rfl ?_ ?_; rotate_left; (focus (intro u hu; have c1 := TbBox.c0 (SBox.below SuD.out hu); clear hu; go_simp <;> rfl)); simp only [Act.put, List.setIfInBounds_toArray, List.set_cons_zero, List.set_cons_succ])
        (refine sch_take ?_ rfl ?_ ?_; rotate_left; (focus (intro u hu; go_simp <;> rfl)); simp only [Act.put, List.setIfInBounds_toArray, List.set_cons_zero, List.set_cons_succ])
        (refine sch_take ?_ rfl ?_ ?_; rotate_left; (focus (intro u hu; have c1 := TbBox.c0 (SBox.below SvD.out hu); clear hu; go_simp <;> rfl)); simp only [Act.put, List.setIfInBounds_toArray, List.set_cons_zero, List.set_cons_succ])
        refine sch_call rfl ?_
        intro K hK
        go_simp
        refine (dec_refl r1 ▸ zints_any _ _ _ r1 r1 TuD.out.row TvD.out.row).mono ?_
        rintro e w26 ⟨rfl, hb26⟩
        go_wp2_with fail
        refine hK _ _ hb26 ?_
        clear hK K
        have St26 : Hid (TbBox w26 (w.heap.size) (.slice A m c)) := StD.out.below hb26
        have Tt26 : Hid (TbIn w26 (.slice A m c) zs) := TtD.out.below hb26
        have HB26 : Hid (Below w.heap.size w w26) := HBD.out.trans (hb26.mono HBD.out.size)
        clear hb26
        iterate 7 (refine sch_take ?_ rfl ?_ ?_; rotate_left; (focus (intro u hu; go_simp <;> rfl)); simp only [Act.put, List.setIfInBounds_toArray, List.set_cons_zero, List.set_cons_succ])
        (refine sch_take ?_ rfl ?_ ?_; rotate_left; (focus (intro u hu; have c1 := TbBox.c0 (SBox.below St26.out hu); clear hu; go_simp <;> rfl)); simp only [Act.put, List.setIfInBounds_toArray, List.set_cons_zero, List.set_cons_succ])
        (refine sch_take ?_ rfl ?_ ?_; rotate_left; (focus (intro u hu; have c1 := TbBox.c0 (SBox.below St26.out hu); clear hu; go_simp <;> rfl)); simp only [Act.put, List.setIfInBounds_toArray, List.set_cons_zero, List.set_cons_succ])
        refine sch_call rfl ?_
        intro K hK
        go_simp
        refine (HCKE.out ▸ tcheck_any w26 _ zs Tt26.out).mono ?_
        rintro e w27 ⟨rfl, hb27⟩
        go_wp2_with fail
        refine hK _ _ hb27 ?_
        clear hK K
        have St27 : Hid (TbBox w27 (w.heap.size) (.slice A m c)) := St26.out.below hb27
        have Tt27 : Hid (TbIn w27 (.slice A m c) zs) := Tt26.out.below hb27
        have HB27 : Hid (Below w.heap.size w w27) := HB26.out.trans (hb27.mono HB26.out.size)
        clear hb27
        refine sch_call rfl ?_
        intro K hK
        go_simp
        refine (HCKE.out ▸ rcheck_any w27 _ zs Tt27.out).mono ?_
        rintro e w28 ⟨rfl, hb28⟩
        go_wp2_with fail
        refine hK _ _ hb28 ?_
        clear hK K
        have St28 : Hid (TbBox w28 (w.heap.size) (.slice A m c)) := St27.out.below hb28
        have Tt28 : Hid (TbIn w28 (.slice A m c) zs) := Tt27.out.below hb28
        have HB28 : Hid (Below w.heap.size w w28) := HB27.out.trans (hb28.mono HB27.out.size)
        clear hb28
        iterate 3 (refine sch_take ?_ rfl ?_ ?_; rotate_left; (focus (intro u hu; go_simp <;> rfl)); simp only [Act.put, List.setIfInBounds_toArray, List.set_cons_zero, List.set_cons_succ])
        (refine sch_take ?_ rfl ?_ ?_; rotate_left; (focus (intro u hu; have c1 := TbBox.c0 (SBox.below St28.out hu); clear hu; go_simp <;> rfl)); simp only [Act.put, List.setIfInBounds_toArray, List.set_cons_zero, List.set_cons_succ])
        (refine sch_take ?_ rfl ?_ ?_; rotate_left; (focus (intro u hu; have c1 := TbBox.c0 (SBox.below St28.out hu); clear hu; go_simp <;> rfl)); simp only [Act.put, List.setIfInBounds_toArray, List.set_cons_zero, List.set_cons_succ])
        refine sch_call rfl ?_
        intro K hK
        go_simp
        refine (HPE.out ▸ tpages_any w28 _ zs Tt28.out).mono ?_
        rintro e w29 ⟨y29, rfl, hy29, hb29⟩
        obtain ⟨A29, n29, c29, rfl, _, _, _⟩ := hy29.1.form
        go_wp2_with fail
        refine hK _ _ hb29 ?_
        clear hK K
        have St29 : Hid (TbBox w29 (w.heap.size) (.slice A m c)) := St28.out.below hb29
        have Tt29 : Hid (TbIn w29 (.slice A m c) zs) := Tt28.out.below hb29
        have HB29 : Hid (Below w.heap.size w w29) := HB28.out.trans (hb29.mono HB28.out.size)
        have P29 : Hid (Rowz w29 (.slice A29 n29 c29) (intC pg)) := hy29.1
        clear hy29 hb29
        refine sch_call rfl ?_
        intro K hK
        go_simp
        refine (HPE.out ▸ rpages_any w29 _ zs Tt29.out).mono ?_
        rintro e w30 ⟨y30, rfl, hy30, hb30⟩
        obtain ⟨A30, n30, c30, rfl, _, _, _⟩ := hy30.1.form
        go_wp2_with fail
        refine hK _ _ hb30 ?_
        clear hK K
        have St30 : Hid (TbBox w30 (w.heap.size) (.slice A m c)) := St29.out.below hb30
        have Tt30 : Hid (TbIn w30 (.slice A m c) zs) := Tt29.out.below hb30
        have HB30 : Hid (Below w.heap.size w w30) := HB29.out.trans (hb30.mono HB29.out.size)
        have P30 : Hid (Rowz w30 (.slice A29 n29 c29) (intC pg)) := P29.out.below hb30
        have Q30 : Hid (Rowz w30 (.slice A30 n30 c30) (intC pg)) := hy30.1
        clear hy30 hb30
        refine sch_call rfl ?_
        intro K hK
        go_simp
        refine (dec_refl pg ▸ zints_any w30 _ _ pg pg P30.out Q30.out).mono ?_
        rintro e w31 ⟨rfl, hb31⟩
        go_wp2_with fail
        refine hK _ _ hb31 ?_
        clear hK K
        have St31 : Hid (TbBox w31 (w.heap.size) (.slice A m c)) := St30.out.below hb31
        have Tt31 : Hid (TbIn w31 (.slice A m c) zs) := Tt30.out.below hb31
        have HB31 : Hid (Below w.heap.size w w31) := HB30.out.trans (hb31.mono HB30.out.size)
        clear hb31
        iterate 2 (refine sch_take ?_ rfl ?_ ?_; rotate_left; (focus (intro u hu; go_simp <;> rfl)); simp only [Act.put, List.setIfInBounds_toArray, List.set_cons_zero, List.set_cons_succ])
        (refine sch_take ?_ rfl ?_ ?_; rotate_left; (focus (intro u hu; have c1 := TbBox.c0 (SBox.below St31.out hu); clear hu; go_simp <;> rfl)); simp only [Act.put, List.setIfInBounds_toArray, List.set_cons_zero, List.set_cons_succ])
        (refine sch_take ?_ rfl ?_ ?_; rotate_left; (focus (intro u hu; have c1 := TbBox.c0 (SBox.below St31.out hu); clear hu; go_simp <;> rfl)); simp only [Act.put, List.setIfInBounds_toArray, List.set_cons_zero, List.set_cons_succ])
        refine sch_call rfl ?_
        intro K hK
        go_simp
        refine (HPL.out ▸ HPE.out ▸ tcount_any w31 _ zs Tt31.out).mono ?_
        rintro e w32 ⟨rfl, hb32⟩
        go_wp2_with fail
        refine hK _ _ hb32 ?_
        clear hK K
        have St32 : Hid (TbBox w32 (w.heap.size) (.slice A m c)) := St31.out.below hb32
        have Tt32 : Hid (TbIn w32 (.slice A m c) zs) := Tt31.out.below hb32
        have HB32 : Hid (Below w.heap.size w w32) := HB31.out.trans (hb32.mono HB31.out.size)
        clear hb32
        refine sch_call rfl ?_
        intro K hK
        go_simp
        refine (HPE.out ▸ rpages_any w32 _ zs Tt32.out).mono ?_
        rintro e w33 ⟨y33, rfl, hy33, hb33⟩
        obtain ⟨A33, n33, c33, rfl, _, _, _⟩ := hy33.1.form
        obtain rfl : L = n33 := HPL.out.symm.trans hy33.1.lenZ.symm
        go_wp2_with fail
        refine hK _ _ hb33 ?_
        clear hK K
        have St33 : Hid (TbBox w33 (w.heap.size) (.slice A m c)) := St32.out.below hb33
        have Tt33 : Hid (TbIn w33 (.slice A m c) zs) := Tt32.out.below hb33
        have HB33 : Hid (Below w.heap.size w w33) := HB32.out.trans (hb33.mono HB32.out.size)
        clear hy33 hb33
        iterate 4 (refine sch_take ?_ rfl ?_ ?_; rotate_left; (focus (intro u hu; go_simp <;> rfl)); simp only [Act.put, List.setIfInBounds_toArray, List.set_cons_zero, List.set_cons_succ])
        refine sch_nil ?_
        go_wp2_with fail
        go_ret
        exact ⟨rfl, HB33.out⟩
      · have hn3' : (3000 : Int) < n := by omega
        clear b0 b1 hw1 hl hm hVT hb4 hnl hn3
        go_enter Try.func4, Try.ntmps4
        go_wp2_with fail
        rw [HW1.out]
        refine (lives10_any w1).mono ?_
        rintro e w2 ⟨rfl, hb2⟩
        have HB2 : Hid (Below w.heap.size w w2) := HB1.out.trans (hb2.mono HB1.out.size)
        have V2 : Hid (BytH w2 (.slice Ab nb cb) bs) := V1.out.below hb2
        have St2 : Hid (TbBox w2 (w.heap.size) (.slice A m c)) := St1.out.below hb2
        have Tt2 : Hid (TbIn w2 (.slice A m c) (zs)) := Tt1.out.below hb2
        clear hb2
        have pt := St2.out.c0
        go_wp2_with fail
        clear pt
        go_ret
        exact ⟨rfl, HB2.out⟩
    · have hnb4 : (1000 : Int) < (nb : Int) := by omega
      clear b0 b1 hw1 hl hm hVT hb4 hnl
      go_enter Try.func4, Try.ntmps4
      go_wp2_with fail
      rw [HW1.out]
      refine (lives10_any w1).mono ?_
      rintro e w2 ⟨rfl, hb2⟩
      have HB2 : Hid (Below w.heap.size w w2) := HB1.out.trans (hb2.mono HB1.out.size)
      have V2 : Hid (BytH w2 (.slice Ab nb cb) bs) := V1.out.below hb2
      have St2 : Hid (TbBox w2 (w.heap.size) (.slice A m c)) := St1.out.below hb2
      have Tt2 : Hid (TbIn w2 (.slice A m c) (zs)) := Tt1.out.below hb2
      clear hb2
      have pt := St2.out.c0
      go_wp2_with fail
      clear pt
      go_ret
      exact ⟨rfl, HB2.out⟩
  · have hm4 : (400 : Int) < (m : Int) := by omega
    clear b0 b1 hw1 hl hm
    go_enter Try.func4, Try.ntmps4
    go_wp2_with fail
    rw [HW1.out]
    refine (lives10_any w1).mono ?_
    rintro e w2 ⟨rfl, hb2⟩
    have HB2 : Hid (Below w.heap.size w w2) := HB1.out.trans (hb2.mono HB1.out.size)
    have St2 : Hid (TbBox w2 w.heap.size (.slice A m c)) := St1.out.below hb2
    clear hb2
    have pt := St2.out.c0
    go_wp2_with fail
    go_ret
    exact ⟨rfl, HB2.out⟩

set_option maxRecDepth 100000 in
theorem lifted (os : Os) (started : os.Started) (H : Type) (enc : TypeId × Value → H) :
    ReturnsInHanded {} Try.checked os 4 .any (Rows.tableCallsSpec.pre6 enc Try.prog Try.f4 Rows.tableCallsRow.domain false) (Rows.tableCallsSpec.post enc Try.prog Try.f4 false true false false) := by
  refine returnsInHanded_of_change (C := Try.checked) ownKnobs started (by kernel_rfl) Try.func4
    (ChangeSpec.witness6 (enc := enc) (C := Try.checked) false ⟨#[], #[.agg #[.slice none 0 0], .int .i64 0, .int .i64 0, .slice none 0 0], []⟩ 8 (by kernel_rfl) (by kernel_rfl) (by kernel_rfl) (by kernel_rfl)) ?_
  intro W base args ds gs before hval0 hW hcnd _
  have hval : ∀ (j : Nat) t v, Try.f4.params[j]? = some t → args[j]? = some v → Value.okWide Try.prog W .any base t v := hval0
  have hW' := hW
  obtain ⟨p, q, hA0, hV, rfl, hfz, hnd⟩ := hW
  have hA : DataW.TrodAll enc Try.prog W 0 (fun _ => true) true Try.f4.params.toList args.toList ds p := hA0
  rw [Try.params4] at hA hval
  obtain ⟨v0, vs0, d0, ds0, p0, q0, hargs, rfl, rfl, h0, r0⟩ := trodAll_cons hA
  obtain ⟨v1, vs1, d1, ds1, p1, q1, rfl, rfl, rfl, h1, r1⟩ := trodAll_cons r0
  obtain ⟨v2, vs2, d2, ds2, p2, q2, rfl, rfl, rfl, h2, r2⟩ := trodAll_cons r1
  obtain ⟨v3, vs3, d3, ds3, p3, q3, rfl, rfl, rfl, h3, r3⟩ := trodAll_cons r2
  obtain ⟨rfl, rfl, rfl⟩ := trodAll_nil r3
  obtain rfl : args = #[v0, v1, v2, v3] := by cases args; simp_all
  obtain ⟨rfl, rfl⟩ := trodVars_none hV
  have k0 := h0
  have lt0 : ∀ x ∈ p0, x.block < W.heap.size := by obtain ⟨m, hm⟩ := k0; exact DataW.trod_lt m _ _ _ hm
  obtain ⟨x0, zs0, rfl, b0, zb0⟩ := open_table (hval 0 24 v0 rfl rfl) h0
  obtain ⟨a1, rfl, rfl, rfl, w1⟩ := open_int Try.underlying3 (hval 1 3 v1 rfl rfl) h1
  have b1 := open_i64 w1
  obtain ⟨a2, rfl, rfl, rfl, w2⟩ := open_int Try.underlying3 (hval 2 3 v2 rfl rfl) h2
  have b2 := open_i64 w2
  have k3 := h3
  have lt3 : ∀ x ∈ p3, x.block < W.heap.size := by obtain ⟨m, hm⟩ := k3; exact DataW.trod_lt m _ _ _ hm
  obtain ⟨l3, b3⟩ := open_bytes (hval 3 30 v3 rfl rfl) h3
  clear hA0 hval0
  refine (walk W x0 zs0 a1 a2 v3 l3 b0 zb0 b1 b2 b3).mono fun e W' ⟨he, bel⟩ => ?_
  subst he
  exact ⟨_, rfl, _, _, _, [], _, [], hW', trodAll_mk1 (shut_bool Try.underlying4 _), (trodAll_cons_mk (Below.trod laidOuts (by kernel_rfl) (of_decide_eq_true (by kernel_rfl)) k0 bel lt0) (trodAll_cons_mk (shut_int Try.underlying3 w1) (trodAll_cons_mk (shut_int Try.underlying3 w2) (trodAll_cons_mk (Below.trod laidOuts (by kernel_rfl) (of_decide_eq_true (by kernel_rfl)) k3 bel lt3) trodAll_mk0)))), rfl, bel.frame _, fun h => by cases h⟩

theorem over : Rows.tableCallsRow.holds Try.pinned (OpenSpec.ofChange Rows.tableCallsSpec) :=
  OpenClaim.holds_of_wide 4 Try.f4 rfl rfl rfl rfl rfl rfl rfl ⟨rfl, rfl, rfl, rfl, rfl⟩ rfl rfl rfl rfl rfl (by kernel_rfl) Try.func4 (by kernel_rfl)
    (of_decide_eq_true (by kernel_rfl)) (by unfold Func.isWrapper; first | (rw [if_pos (by decide +kernel)]; kernel_rfl) | (rw [if_neg (by decide +kernel)]; exact ⟨rfl, rfl⟩))
    (fun os started H enc _ => lifted os started H enc)

theorem proved : Rows.TableCallsSaid := over
#print axioms proved
end Go.Proofs.Ythakkaffjnkhgaa.tableCalls

