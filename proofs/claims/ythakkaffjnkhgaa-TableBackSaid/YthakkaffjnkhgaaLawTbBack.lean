/-
  The statement TableBack: a table is its bytes, and no other bytes are. Conditions: none.
-/
import Derived.Test.YthakkaffjnkhgaaTbI
import Derived.Test.YthakkaffjnkhgaaTbK
namespace Go.Proofs.Ythakkaffjnkhgaa.tableBack
open Go.ChangeShapes Go.WideShapes Go.ChangeAt Go.RowKit Go.Maps
set_option maxRecDepth 100000
set_option linter.unusedVariables false
set_option linter.unusedSimpArgs false

theorem dec_refl (l : List Int) : decide (l = l) = true := decide_eq_true rfl
theorem BytH.tbox {w w' : World} {v : Value} {l : List UInt8} {g n c : Nat} {A : Option Addr} (h : BytH w v l) (hs : TbBox w g (.slice A n c)) (hg : w.grownBy w' (some g)) : BytH w' v l :=
  Byt.keep h hg.size (fun b' hlt hex => hg.block b' hlt (by
    intro e
    cases e
    exact TbBox.noByte hs hex))
/-- A read, by its answer. -/
theorem read_by (w : World) (v : Value) (b : List UInt8) (r : List Int × Int) (h : BytH w v b) (hl : b.length ≤ 1000000) (hr : readTb b = r) : Calls Try.prog 10 #[v] w (TbOut w r) := by
  have := tread_any w v b h (by omega)
  rw [hr] at this
  exact this
theorem bytes_by (w : World) (v : Value) (zs : List Int) (r : List UInt8 × Int) (h : TbIn w v zs) (hr : bytesT zs = r) : Calls Try.prog 23 #[.agg #[v]] w (BytE w r) := hr ▸ tbytes_any w v zs h
theorem one_byte (w : World) (g n : Nat) (h : True) : True := trivial
set_option maxRecDepth 100000 in
set_option maxHeartbeats 16000000 in
theorem walk (w : World) (x0 : Value) (zs : List Int) (v1 : Value) (bs : List UInt8) (b0 : Rowz w x0 (intC zs)) (z0 : inZ zs) (b1 : Byt w v1 bs) : Calls Try.prog 6 #[.agg #[x0], v1] w fun e w' => e = .returned (.bool true) ∧ Below w.heap.size w w' := by
  obtain ⟨A, m, c, rfl, N, hnc, hcm⟩ := b0.form
  obtain ⟨Ab, nb, cb, rfl, NB, hnb, hcb⟩ := b1.form
  have hm : m = zs.length := b0.lenZ
  obtain ⟨w1, hw1⟩ : ∃ u, w.alloc (.cells #[.slice A m c] 24) = u := ⟨_, rfl⟩
  have HW1 := Lib.hid hw1
  have HB1 : Hid (Below w.heap.size w w1) := hw1 ▸ below_new w _
  have St1 : Hid (TbBox w1 w.heap.size (.slice A m c)) := hw1 ▸ SBox.new w 24 [.slice A m c]
  obtain ⟨i0, hi0, hz0, hz1, hz2⟩ := info_parts uinfo
  by_cases hl : zs.length ≤ 400
  · have hm4 : (m : Int) ≤ 400 := by omega
    have hVT : TbIn w (.slice A m c) zs := ⟨b0, by omega, z0⟩
    have HVT := Lib.hid hVT
    have Tt1 : Hid (TbIn w1 (.slice A m c) zs) := hVT.below HB1.out
    have V1 : Hid (BytH w1 (.slice Ab nb cb) bs) := b1.below HB1.out
    have hnl : nb = bs.length := NB.out
    by_cases hb4 : bs.length ≤ 1000
    · have HN : Hid (bs.length ≤ 1000) := hb4
      have hnb4 : (nb : Int) ≤ 1000 := by omega
      have HLZ := Lib.hid hl
      clear b0 b1 hw1 hl hm hVT hb4 hnl
      rcases readTb_cases bs with ⟨us, hr, hus⟩ | hr
      · have HRD := Lib.hid hr
        have HUS := Lib.hid hus
        have HBU := Lib.hid (read_bytes hr).2
        clear hr hus
        by_cases hok : tbOk zs
        · have HOK := Lib.hid hok
          have hbs := bytesT_ok hok
          have HXL : Hid ((bytesT zs).1.length ≤ 655370) := bytesT_len hok.1
          have HX0 : Hid (0 < (bytesT zs).1.length) := by
            rw [Hid, hbs]
            simp only [List.length_append]
            have := (numB_len zs.length).1
            omega
          have HR1 : Hid (readTb (bytesT zs).1 = (zs, 0)) := by rw [hbs]; exact read_same hok
          have HR2 : Hid (readTb ((bytesT zs).1.take ((bytesT zs).1.length - 1)) = ([], 4)) := by rw [hbs]; exact read_less hok
          have HR3 : Hid (readTb ((bytesT zs).1 ++ [0]) = ([], 4)) := by rw [hbs]; exact read_more hok
          have HBS : Hid (bytesT zs = ((bytesT zs).1, 0)) := by rw [Hid, hbs]
          obtain ⟨xs, hxs⟩ : ∃ xs, (bytesT zs).1 = xs := ⟨_, rfl⟩
          rw [hxs] at HXL HX0 HR1 HR2 HR3 HBS
          clear hok hbs hxs
          go_enter Try.func6, Try.ntmps6
          go_wp2_with fail
          rw [HW1.out]
          refine (lives10_any w1).mono ?_
          rintro e w2 ⟨rfl, hb2⟩
          have HB2 : Hid (Below w.heap.size w w2) := HB1.out.trans (hb2.mono HB1.out.size)
          have V2 : Hid (BytH w2 (.slice Ab nb cb) bs) := V1.out.below hb2
          have St2 : Hid (TbBox w2 (w.heap.size) (.slice A m c)) := St1.out.below hb2
          have Tt2 : Hid (TbIn w2 (.slice A m c) (zs)) := Tt1.out.below hb2
          clear hb2
          have pt := St2.out.c0
          go_wp2_with fail
          clear pt
          refine (kitown_any w2 (.slice Ab nb cb) bs V2.out (by have := HN.out; omega)).mono ?_
          rintro e w3 ⟨o3, rfl, ho3, hb3⟩
          have HB3 : Hid (Below w.heap.size w w3) := HB2.out.trans (hb3.mono HB2.out.size)
          have V3 : Hid (BytH w3 (.slice Ab nb cb) bs) := V2.out.below hb3
          have St3 : Hid (TbBox w3 (w.heap.size) (.slice A m c)) := St2.out.below hb3
          have Tt3 : Hid (TbIn w3 (.slice A m c) (zs)) := Tt2.out.below hb3
          have O3 : Hid (BytH w3 o3 bs) := ho3.byt
          clear hb3
          have pt := St3.out.c0
          go_wp2_with fail
          clear pt
          refine (read_by w3 _ bs _ O3.out (by have := HN.out; omega) HRD.out).mono ?_
          rintro e w4 ⟨x4, rfl, hx4, hb4⟩
          obtain ⟨A4, n4, c4, rfl, N4, _, _⟩ := hx4.1.form
          have HB4 : Hid (Below w.heap.size w w4) := HB3.out.trans (hb4.mono HB3.out.size)
          have V4 : Hid (BytH w4 (.slice Ab nb cb) bs) := V3.out.below hb4
          have St4 : Hid (TbBox w4 (w.heap.size) (.slice A m c)) := St3.out.below hb4
          have Tt4 : Hid (TbIn w4 (.slice A m c) (zs)) := Tt3.out.below hb4
          obtain ⟨w5, hw5⟩ : ∃ u, (w4.alloc (.cells #[.slice A4 n4 c4] 24)) = u := ⟨_, rfl⟩
          have HW5 := Lib.hid hw5
          have hb5 : Below w4.heap.size w4 w5 := hw5 ▸ below_new _ _
          have HB5 : Hid (Below w.heap.size w w5) := HB4.out.trans (hb5.mono HB4.out.size)
          have V5 : Hid (BytH w5 (.slice Ab nb cb) bs) := V4.out.below hb5
          have St5 : Hid (TbBox w5 (w.heap.size) (.slice A m c)) := St4.out.below hb5
          have Tt5 : Hid (TbIn w5 (.slice A m c) (zs)) := Tt4.out.below hb5
          have Su5 : Hid (TbBox w5 w4.heap.size (.slice A4 n4 c4)) := hw5 ▸ SBox.new w4 24 [.slice A4 n4 c4]
          have Tu5 : Hid (TbIn w5 (.slice A4 n4 c4) (us)) := tbin_of (hx4.1.below hb5) HUS.out
          clear hx4 hb4 hw5 hb5
          have pt : (w4.alloc (.cells #[.slice A4 n4 c4] 24)).cell? ⟨w.heap.size, 0, none⟩ = some (.slice A m c) := by rw [HW5.out]; exact St5.out.c0
          go_wp2_with fail
          rw [HW5.out]
          clear pt
          refine (bytes_by w5 _ us _ Tu5.out HBU.out).mono ?_
          rintro e w6 ⟨x6, rfl, hx6, hb6⟩
          have X6 : Hid (Byt w6 _ _) := hx6.byt
          clear hx6
          have HB6 : Hid (Below w.heap.size w w6) := HB5.out.trans (hb6.mono HB5.out.size)
          have V6 : Hid (BytH w6 (.slice Ab nb cb) bs) := V5.out.below hb6
          have St6 : Hid (TbBox w6 (w.heap.size) (.slice A m c)) := St5.out.below hb6
          have Tt6 : Hid (TbIn w6 (.slice A m c) (zs)) := Tt5.out.below hb6
          have Su6 : Hid (TbBox w6 (w4.heap.size) (.slice A4 n4 c4)) := Su5.out.below hb6
          have Tu6 : Hid (TbIn w6 (.slice A4 n4 c4) (us)) := Tu5.out.below hb6
          clear hb6
          have t1 := text_of X6.out
          have t2 := text_of (show Byt w6 _ _ from V6.out)
          have pt := St6.out.c0
          have pu := Su6.out.c0
          go_wp2_with fail
          clear pt pu
          clear t1 t2
          refine (bytes_by w6 _ zs _ Tt6.out HBS.out).mono ?_
          rintro e w7 ⟨y7, rfl, hy7, hb7⟩
          obtain ⟨Ay, ny, cy, rfl, NY, hny, hcy⟩ := hy7.byt.form
          have HB7 : Hid (Below w.heap.size w w7) := HB6.out.trans (hb7.mono HB6.out.size)
          have V7 : Hid (BytH w7 (.slice Ab nb cb) bs) := V6.out.below hb7
          have St7 : Hid (TbBox w7 (w.heap.size) (.slice A m c)) := St6.out.below hb7
          have Tt7 : Hid (TbIn w7 (.slice A m c) (zs)) := Tt6.out.below hb7
          have Su7 : Hid (TbBox w7 (w4.heap.size) (.slice A4 n4 c4)) := Su6.out.below hb7
          have Tu7 : Hid (TbIn w7 (.slice A4 n4 c4) (us)) := Tu6.out.below hb7
          have Y7 : Hid (BytH w7 (.slice Ay ny cy) xs) := hy7.byt
          clear hb7
          have pt := St7.out.c0
          have pu := Su7.out.c0
          go_wp2_with fail
          clear pt pu
          refine (kitown_any w7 _ xs Y7.out (by have := HXL.out; omega)).mono ?_
          rintro e w8 ⟨o8, rfl, ho8, hb8⟩
          have HB8 : Hid (Below w.heap.size w w8) := HB7.out.trans (hb8.mono HB7.out.size)
          have V8 : Hid (BytH w8 (.slice Ab nb cb) bs) := V7.out.below hb8
          have Y8 : Hid (BytH w8 (.slice Ay ny cy) xs) := Y7.out.below hb8
          have St8 : Hid (TbBox w8 (w.heap.size) (.slice A m c)) := St7.out.below hb8
          have Tt8 : Hid (TbIn w8 (.slice A m c) (zs)) := Tt7.out.below hb8
          have Su8 : Hid (TbBox w8 (w4.heap.size) (.slice A4 n4 c4)) := Su7.out.below hb8
          have Tu8 : Hid (TbIn w8 (.slice A4 n4 c4) (us)) := Tu7.out.below hb8
          have O8 : Hid (BytH w8 o8 xs) := ho8.byt
          clear hb8
          have pt := St8.out.c0
          have pu := Su8.out.c0
          go_wp2_with fail
          clear pt pu
          refine (read_by w8 _ xs _ O8.out (by have := HXL.out; omega) HR1.out).mono ?_
          rintro e w9 ⟨x9, rfl, hx9, hb9⟩
          obtain ⟨A9, n9, c9, rfl, _, _, _⟩ := hx9.1.form
          have HB9 : Hid (Below w.heap.size w w9) := HB8.out.trans (hb9.mono HB8.out.size)
          have V9 : Hid (BytH w9 (.slice Ab nb cb) bs) := V8.out.below hb9
          have Y9 : Hid (BytH w9 (.slice Ay ny cy) xs) := Y8.out.below hb9
          have St9 : Hid (TbBox w9 (w.heap.size) (.slice A m c)) := St8.out.below hb9
          have Tt9 : Hid (TbIn w9 (.slice A m c) (zs)) := Tt8.out.below hb9
          have Su9 : Hid (TbBox w9 (w4.heap.size) (.slice A4 n4 c4)) := Su8.out.below hb9
          have Tu9 : Hid (TbIn w9 (.slice A4 n4 c4) (us)) := Tu8.out.below hb9
          have HX9 := Lib.hid hx9
          have HUA : Hid (w4.heap.size < w8.heap.size) := Su8.out.lt
          have HTA : Hid (w.heap.size < w4.heap.size) := St4.out.lt
          have hys : ny = xs.length := NY.out
          have hle : 0 < ny := by rw [hys]; exact HX0.out
          obtain ⟨A2, n2, c2, hcut, bcut, _, _, _⟩ := (show Byt w9 _ _ from Y9.out).uptorun 30 elemByte sizeByte (ny - 1) (by omega) .i64
          have hcast : ((ny - 1 : Nat) : Int) = (ny : Int) - 1 := by omega
          rw [hcast] at hcut
          rw [hys] at bcut
          have BC : Hid (BytH w9 (.slice A2 n2 c2) (xs.take (xs.length - 1))) := bcut
          clear hx9 hb9 hys bcut hcast
          have pt := St9.out.c0
          go_wp2_with (refine wpList_storeS Su9.out tbInfo rfl _ _ rfl rfl (ds := [.slice A9 n9 c9]) rfl rfl (one_tb _ _ _) ?_; intro w10 hs hg hz
                       have HB10 : Hid (Below w.heap.size w w10) := HB9.out.grown hg HB9.out.size (fun k e => by cases e; have := HTA.out; omega)
                       have St10 : Hid (TbBox w10 w.heap.size (.slice A m c)) := St9.out.grown hg (by have := HTA.out; omega)
                       have Tt10 : Hid (TbIn w10 (.slice A m c) zs) := HVT.out.below HB10.out
                       have Su10 : Hid (TbBox w10 w4.heap.size (.slice A9 n9 c9)) := hs
                       have Tu10 : Hid (TbIn w10 (.slice A9 n9 c9) zs) := tbin_of (HX9.out.grown hg HUA.out).1 HOK.out
                       have Y10 : Hid (BytH w10 (.slice Ay ny cy) xs) := BytH.tbox Y9.out Su9.out hg
                       have C10 : Hid (BytH w10 (.slice A2 n2 c2) (xs.take (xs.length - 1))) := BytH.tbox BC.out Su9.out hg
                       clear hs hg hz pt
                       have pt := St10.out.c0
                       have pu := Su10.out.c0)
          clear pt pu
          refine (read_by w10 _ _ _ C10.out (by have := HXL.out; rw [List.length_take]; omega) HR2.out).mono ?_
          rintro e w11 ⟨x11, rfl, hx11, hb11⟩
          obtain ⟨A11, n11, c11, rfl, N11, _, _⟩ := hx11.1.form
          have HB11 : Hid (Below w.heap.size w w11) := HB10.out.trans (hb11.mono HB10.out.size)
          have Y11 : Hid (BytH w11 (.slice Ay ny cy) xs) := Y10.out.below hb11
          have St11 : Hid (TbBox w11 (w.heap.size) (.slice A m c)) := St10.out.below hb11
          have Tt11 : Hid (TbIn w11 (.slice A m c) (zs)) := Tt10.out.below hb11
          have Su11 : Hid (TbBox w11 (w4.heap.size) (.slice A9 n9 c9)) := Su10.out.below hb11
          have Tu11 : Hid (TbIn w11 (.slice A9 n9 c9) (zs)) := Tu10.out.below hb11
          obtain ⟨w12, hw12⟩ : ∃ u, (w11.alloc (.cells #[.slice A11 n11 c11] 24)) = u := ⟨_, rfl⟩
          have HW12 := Lib.hid hw12
          have hb12 : Below w11.heap.size w11 w12 := hw12 ▸ below_new _ _
          have HB12 : Hid (Below w.heap.size w w12) := HB11.out.trans (hb12.mono HB11.out.size)
          have Y12 : Hid (BytH w12 (.slice Ay ny cy) xs) := Y11.out.below hb12
          have St12 : Hid (TbBox w12 (w.heap.size) (.slice A m c)) := St11.out.below hb12
          have Tt12 : Hid (TbIn w12 (.slice A m c) (zs)) := Tt11.out.below hb12
          have Su12 : Hid (TbBox w12 (w4.heap.size) (.slice A9 n9 c9)) := Su11.out.below hb12
          have Tu12 : Hid (TbIn w12 (.slice A9 n9 c9) (zs)) := Tu11.out.below hb12
          have Sf12 : Hid (TbBox w12 w11.heap.size (.slice A11 n11 c11)) := hw12 ▸ SBox.new w11 24 [.slice A11 n11 c11]
          have Tf12 : Hid (TbIn w12 (.slice A11 n11 c11) ([])) := tbin_of (hx11.1.below hb12) tbOk_nil
          clear hx11 hb11 hw12 hb12
          have pt : (w11.alloc (.cells #[.slice A11 n11 c11] 24)).cell? ⟨w.heap.size, 0, none⟩ = some (.slice A m c) := by rw [HW12.out]; exact St12.out.c0
          have pu : (w11.alloc (.cells #[.slice A11 n11 c11] 24)).cell? ⟨w4.heap.size, 0, none⟩ = some (.slice A9 n9 c9) := by rw [HW12.out]; exact Su12.out.c0
          go_wp2_with fail
          rw [HW12.out]
          clear pt pu
          refine (kitown_any w12 _ xs Y12.out (by have := HXL.out; omega)).mono ?_
          rintro e w13 ⟨o13, rfl, ho13, hb13⟩
          have O13 := Lib.hid ho13
          have HKN := Lib.hid hb13
          clear ho13
          have HB13 : Hid (Below w.heap.size w w13) := HB12.out.trans (hb13.mono HB12.out.size)
          have Y13 : Hid (BytH w13 (.slice Ay ny cy) xs) := Y12.out.below hb13
          have St13 : Hid (TbBox w13 (w.heap.size) (.slice A m c)) := St12.out.below hb13
          have Tt13 : Hid (TbIn w13 (.slice A m c) (zs)) := Tt12.out.below hb13
          have Su13 : Hid (TbBox w13 (w4.heap.size) (.slice A9 n9 c9)) := Su12.out.below hb13
          have Tu13 : Hid (TbIn w13 (.slice A9 n9 c9) (zs)) := Tu12.out.below hb13
          clear hb13
          have pt := St13.out.c0
          have pu := Su13.out.c0
          go_wp2_with (at_builtin; refine wpList_app _ rfl (.tmp 74) (.tmp 75) _ rfl w12.heap.size 5 i0 _ Try.underlying30 hi0 hz0 hz1 hz2 rfl _ xs rfl (World.ownsRow.alloc O13.out _) (.slice (some ⟨w13.heap.size, 0, none⟩) 1 1) [0] rfl (Byt.lit1 w13 5 0 0 (0, 0) rfl) (by have := HXL.out; simp; omega) (by have := HKN.out.size; simp; omega) ?_; intro v14 w14 hown hgr hat
                       have hbk : Below w12.heap.size w12 w14 := below_own (HKN.out.alloc HKN.out.size _) (by have := HKN.out.size; simp; omega) (World.ownsRow.alloc O13.out _) hgr
                       have O14 : Hid (BytH w14 v14 (xs ++ [0])) := hown.byt
                       have HBK := Lib.hid hbk
                       clear hown hgr hat hbk)
          clear pt pu
          have HB14 : Hid (Below w.heap.size w w14) := HB12.out.trans (HBK.out.mono HB12.out.size)
          have Y14 : Hid (BytH w14 (.slice Ay ny cy) xs) := Y12.out.below HBK.out
          have St14 : Hid (TbBox w14 (w.heap.size) (.slice A m c)) := St12.out.below HBK.out
          have Tt14 : Hid (TbIn w14 (.slice A m c) (zs)) := Tt12.out.below HBK.out
          have Su14 : Hid (TbBox w14 (w4.heap.size) (.slice A9 n9 c9)) := Su12.out.below HBK.out
          have Tu14 : Hid (TbIn w14 (.slice A9 n9 c9) (zs)) := Tu12.out.below HBK.out
          refine (read_by w14 _ _ _ O14.out (by have := HXL.out; rw [List.length_append]; simp; omega) HR3.out).mono ?_
          rintro e w15 ⟨x15, rfl, hx15, hb15⟩
          obtain ⟨A15, n15, c15, rfl, N15, _, _⟩ := hx15.1.form
          have HB15 : Hid (Below w.heap.size w w15) := HB14.out.trans (hb15.mono HB14.out.size)
          have Y15 : Hid (BytH w15 (.slice Ay ny cy) xs) := Y14.out.below hb15
          have St15 : Hid (TbBox w15 (w.heap.size) (.slice A m c)) := St14.out.below hb15
          have Tt15 : Hid (TbIn w15 (.slice A m c) (zs)) := Tt14.out.below hb15
          have Su15 : Hid (TbBox w15 (w4.heap.size) (.slice A9 n9 c9)) := Su14.out.below hb15
          have Tu15 : Hid (TbIn w15 (.slice A9 n9 c9) (zs)) := Tu14.out.below hb15
          obtain ⟨w16, hw16⟩ : ∃ u, (w15.alloc (.cells #[.slice A15 n15 c15] 24)) = u := ⟨_, rfl⟩
          have HW16 := Lib.hid hw16
          have hb16 : Below w15.heap.size w15 w16 := hw16 ▸ below_new _ _
          have HB16 : Hid (Below w.heap.size w w16) := HB15.out.trans (hb16.mono HB15.out.size)
          have Y16 : Hid (BytH w16 (.slice Ay ny cy) xs) := Y15.out.below hb16
          have St16 : Hid (TbBox w16 (w.heap.size) (.slice A m c)) := St15.out.below hb16
          have Tt16 : Hid (TbIn w16 (.slice A m c) (zs)) := Tt15.out.below hb16
          have Su16 : Hid (TbBox w16 (w4.heap.size) (.slice A9 n9 c9)) := Su15.out.below hb16
          have Tu16 : Hid (TbIn w16 (.slice A9 n9 c9) (zs)) := Tu15.out.below hb16
          have Sg16 : Hid (TbBox w16 w15.heap.size (.slice A15 n15 c15)) := hw16 ▸ SBox.new w15 24 [.slice A15 n15 c15]
          have Tg16 : Hid (TbIn w16 (.slice A15 n15 c15) ([])) := tbin_of (hx15.1.below hb16) tbOk_nil
          clear hx15 hb15 hw16 hb16
          have pt : (w15.alloc (.cells #[.slice A15 n15 c15] 24)).cell? ⟨w.heap.size, 0, none⟩ = some (.slice A m c) := by rw [HW16.out]; exact St16.out.c0
          have pu : (w15.alloc (.cells #[.slice A15 n15 c15] 24)).cell? ⟨w4.heap.size, 0, none⟩ = some (.slice A9 n9 c9) := by rw [HW16.out]; exact Su16.out.c0
          go_wp2_with fail
          rw [HW16.out]
          clear pt pu
          refine (dec_refl zs ▸ zints_any w16 _ _ zs zs Tu16.out.row Tt16.out.row).mono ?_
          rintro e w17 ⟨rfl, hb17⟩
          have HB17 : Hid (Below w.heap.size w w17) := HB16.out.trans (hb17.mono HB16.out.size)
          have Y17 : Hid (BytH w17 (.slice Ay ny cy) xs) := Y16.out.below hb17
          have St17 : Hid (TbBox w17 (w.heap.size) (.slice A m c)) := St16.out.below hb17
          have Tt17 : Hid (TbIn w17 (.slice A m c) (zs)) := Tt16.out.below hb17
          have Su17 : Hid (TbBox w17 (w4.heap.size) (.slice A9 n9 c9)) := Su16.out.below hb17
          have Tu17 : Hid (TbIn w17 (.slice A9 n9 c9) (zs)) := Tu16.out.below hb17
          clear hb17
          have pt := St17.out.c0
          have pu := Su17.out.c0
          go_wp2_with fail
          clear pt pu
          go_ret
          exact ⟨rfl, HB17.out⟩
        · have HBS : Hid (bytesT zs = ([], 2)) := if_neg hok
          have HCK : Hid (chkT zs = 2) := if_neg hok
          clear hok
          go_enter Try.func6, Try.ntmps6
          go_wp2_with fail
          rw [HW1.out]
          refine (lives10_any w1).mono ?_
          rintro e w2 ⟨rfl, hb2⟩
          have HB2 : Hid (Below w.heap.size w w2) := HB1.out.trans (hb2.mono HB1.out.size)
          have V2 : Hid (BytH w2 (.slice Ab nb cb) bs) := V1.out.below hb2
          have St2 : Hid (TbBox w2 (w.heap.size) (.slice A m c)) := St1.out.below hb2
          have Tt2 : Hid (TbIn w2 (.slice A m c) (zs)) := Tt1.out.below hb2
          clear hb2
          have pt := St2.out.c0
          go_wp2_with fail
          clear pt
          refine (kitown_any w2 (.slice Ab nb cb) bs V2.out (by have := HN.out; omega)).mono ?_
          rintro e w3 ⟨o3, rfl, ho3, hb3⟩
          have HB3 : Hid (Below w.heap.size w w3) := HB2.out.trans (hb3.mono HB2.out.size)
          have V3 : Hid (BytH w3 (.slice Ab nb cb) bs) := V2.out.below hb3
          have St3 : Hid (TbBox w3 (w.heap.size) (.slice A m c)) := St2.out.below hb3
          have Tt3 : Hid (TbIn w3 (.slice A m c) (zs)) := Tt2.out.below hb3
          have O3 : Hid (BytH w3 o3 bs) := ho3.byt
          clear hb3
          have pt := St3.out.c0
          go_wp2_with fail
          clear pt
          refine (read_by w3 _ bs _ O3.out (by have := HN.out; omega) HRD.out).mono ?_
          rintro e w4 ⟨x4, rfl, hx4, hb4⟩
          obtain ⟨A4, n4, c4, rfl, N4, _, _⟩ := hx4.1.form
          have HB4 : Hid (Below w.heap.size w w4) := HB3.out.trans (hb4.mono HB3.out.size)
          have V4 : Hid (BytH w4 (.slice Ab nb cb) bs) := V3.out.below hb4
          have St4 : Hid (TbBox w4 (w.heap.size) (.slice A m c)) := St3.out.below hb4
          have Tt4 : Hid (TbIn w4 (.slice A m c) (zs)) := Tt3.out.below hb4
          obtain ⟨w5, hw5⟩ : ∃ u, (w4.alloc (.cells #[.slice A4 n4 c4] 24)) = u := ⟨_, rfl⟩
          have HW5 := Lib.hid hw5
          have hb5 : Below w4.heap.size w4 w5 := hw5 ▸ below_new _ _
          have HB5 : Hid (Below w.heap.size w w5) := HB4.out.trans (hb5.mono HB4.out.size)
          have V5 : Hid (BytH w5 (.slice Ab nb cb) bs) := V4.out.below hb5
          have St5 : Hid (TbBox w5 (w.heap.size) (.slice A m c)) := St4.out.below hb5
          have Tt5 : Hid (TbIn w5 (.slice A m c) (zs)) := Tt4.out.below hb5
          have Su5 : Hid (TbBox w5 w4.heap.size (.slice A4 n4 c4)) := hw5 ▸ SBox.new w4 24 [.slice A4 n4 c4]
          have Tu5 : Hid (TbIn w5 (.slice A4 n4 c4) (us)) := tbin_of (hx4.1.below hb5) HUS.out
          clear hx4 hb4 hw5 hb5
          have pt : (w4.alloc (.cells #[.slice A4 n4 c4] 24)).cell? ⟨w.heap.size, 0, none⟩ = some (.slice A m c) := by rw [HW5.out]; exact St5.out.c0
          go_wp2_with fail
          rw [HW5.out]
          clear pt
          refine (bytes_by w5 _ us _ Tu5.out HBU.out).mono ?_
          rintro e w6 ⟨x6, rfl, hx6, hb6⟩
          have X6 : Hid (Byt w6 _ _) := hx6.byt
          clear hx6
          have HB6 : Hid (Below w.heap.size w w6) := HB5.out.trans (hb6.mono HB5.out.size)
          have V6 : Hid (BytH w6 (.slice Ab nb cb) bs) := V5.out.below hb6
          have St6 : Hid (TbBox w6 (w.heap.size) (.slice A m c)) := St5.out.below hb6
          have Tt6 : Hid (TbIn w6 (.slice A m c) (zs)) := Tt5.out.below hb6
          have Su6 : Hid (TbBox w6 (w4.heap.size) (.slice A4 n4 c4)) := Su5.out.below hb6
          have Tu6 : Hid (TbIn w6 (.slice A4 n4 c4) (us)) := Tu5.out.below hb6
          clear hb6
          have t1 := text_of X6.out
          have t2 := text_of (show Byt w6 _ _ from V6.out)
          have pt := St6.out.c0
          have pu := Su6.out.c0
          go_wp2_with fail
          clear pt pu
          clear t1 t2
          refine (bytes_by w6 _ zs _ Tt6.out HBS.out).mono ?_
          rintro e w7 ⟨y7, rfl, hy7, hb7⟩
          clear hy7
          have HB7 : Hid (Below w.heap.size w w7) := HB6.out.trans (hb7.mono HB6.out.size)
          have V7 : Hid (BytH w7 (.slice Ab nb cb) bs) := V6.out.below hb7
          have St7 : Hid (TbBox w7 (w.heap.size) (.slice A m c)) := St6.out.below hb7
          have Tt7 : Hid (TbIn w7 (.slice A m c) (zs)) := Tt6.out.below hb7
          have Su7 : Hid (TbBox w7 (w4.heap.size) (.slice A4 n4 c4)) := Su6.out.below hb7
          have Tu7 : Hid (TbIn w7 (.slice A4 n4 c4) (us)) := Tu6.out.below hb7
          clear hb7
          have pt := St7.out.c0
          have pu := Su7.out.c0
          go_wp2_with fail
          clear pt pu
          refine (HCK.out ▸ tcheck_any w7 _ zs Tt7.out).mono ?_
          rintro e w8 ⟨rfl, hb8⟩
          have HB8 : Hid (Below w.heap.size w w8) := HB7.out.trans (hb8.mono HB7.out.size)
          have V8 : Hid (BytH w8 (.slice Ab nb cb) bs) := V7.out.below hb8
          have St8 : Hid (TbBox w8 (w.heap.size) (.slice A m c)) := St7.out.below hb8
          have Tt8 : Hid (TbIn w8 (.slice A m c) (zs)) := Tt7.out.below hb8
          have Su8 : Hid (TbBox w8 (w4.heap.size) (.slice A4 n4 c4)) := Su7.out.below hb8
          have Tu8 : Hid (TbIn w8 (.slice A4 n4 c4) (us)) := Tu7.out.below hb8
          clear hb8
          have pt := St8.out.c0
          have pu := Su8.out.c0
          go_wp2_with fail
          clear pt pu
          go_ret
          exact ⟨rfl, HB8.out⟩
      · have HRD := Lib.hid hr
        have HUS : Hid (tbOk []) := tbOk_nil
        clear hr
        by_cases hok : tbOk zs
        · have HOK := Lib.hid hok
          have hbs := bytesT_ok hok
          have HXL : Hid ((bytesT zs).1.length ≤ 655370) := bytesT_len hok.1
          have HX0 : Hid (0 < (bytesT zs).1.length) := by
            rw [Hid, hbs]
            simp only [List.length_append]
            have := (numB_len zs.length).1
            omega
          have HR1 : Hid (readTb (bytesT zs).1 = (zs, 0)) := by rw [hbs]; exact read_same hok
          have HR2 : Hid (readTb ((bytesT zs).1.take ((bytesT zs).1.length - 1)) = ([], 4)) := by rw [hbs]; exact read_less hok
          have HR3 : Hid (readTb ((bytesT zs).1 ++ [0]) = ([], 4)) := by rw [hbs]; exact read_more hok
          have HBS : Hid (bytesT zs = ((bytesT zs).1, 0)) := by rw [Hid, hbs]
          obtain ⟨xs, hxs⟩ : ∃ xs, (bytesT zs).1 = xs := ⟨_, rfl⟩
          rw [hxs] at HXL HX0 HR1 HR2 HR3 HBS
          clear hok hbs hxs
          go_enter Try.func6, Try.ntmps6
          go_wp2_with fail
          rw [HW1.out]
          refine (lives10_any w1).mono ?_
          rintro e w2 ⟨rfl, hb2⟩
          have HB2 : Hid (Below w.heap.size w w2) := HB1.out.trans (hb2.mono HB1.out.size)
          have V2 : Hid (BytH w2 (.slice Ab nb cb) bs) := V1.out.below hb2
          have St2 : Hid (TbBox w2 (w.heap.size) (.slice A m c)) := St1.out.below hb2
          have Tt2 : Hid (TbIn w2 (.slice A m c) (zs)) := Tt1.out.below hb2
          clear hb2
          have pt := St2.out.c0
          go_wp2_with fail
          clear pt
          refine (kitown_any w2 (.slice Ab nb cb) bs V2.out (by have := HN.out; omega)).mono ?_
          rintro e w3 ⟨o3, rfl, ho3, hb3⟩
          have HB3 : Hid (Below w.heap.size w w3) := HB2.out.trans (hb3.mono HB2.out.size)
          have V3 : Hid (BytH w3 (.slice Ab nb cb) bs) := V2.out.below hb3
          have St3 : Hid (TbBox w3 (w.heap.size) (.slice A m c)) := St2.out.below hb3
          have Tt3 : Hid (TbIn w3 (.slice A m c) (zs)) := Tt2.out.below hb3
          have O3 : Hid (BytH w3 o3 bs) := ho3.byt
          clear hb3
          have pt := St3.out.c0
          go_wp2_with fail
          clear pt
          refine (read_by w3 _ bs _ O3.out (by have := HN.out; omega) HRD.out).mono ?_
          rintro e w4 ⟨x4, rfl, hx4, hb4⟩
          obtain ⟨A4, n4, c4, rfl, N4, _, _⟩ := hx4.1.form
          have HB4 : Hid (Below w.heap.size w w4) := HB3.out.trans (hb4.mono HB3.out.size)
          have V4 : Hid (BytH w4 (.slice Ab nb cb) bs) := V3.out.below hb4
          have St4 : Hid (TbBox w4 (w.heap.size) (.slice A m c)) := St3.out.below hb4
          have Tt4 : Hid (TbIn w4 (.slice A m c) (zs)) := Tt3.out.below hb4
          obtain ⟨w5, hw5⟩ : ∃ u, (w4.alloc (.cells #[.slice A4 n4 c4] 24)) = u := ⟨_, rfl⟩
          have HW5 := Lib.hid hw5
          have hb5 : Below w4.heap.size w4 w5 := hw5 ▸ below_new _ _
          have HB5 : Hid (Below w.heap.size w w5) := HB4.out.trans (hb5.mono HB4.out.size)
          have V5 : Hid (BytH w5 (.slice Ab nb cb) bs) := V4.out.below hb5
          have St5 : Hid (TbBox w5 (w.heap.size) (.slice A m c)) := St4.out.below hb5
          have Tt5 : Hid (TbIn w5 (.slice A m c) (zs)) := Tt4.out.below hb5
          have Su5 : Hid (TbBox w5 w4.heap.size (.slice A4 n4 c4)) := hw5 ▸ SBox.new w4 24 [.slice A4 n4 c4]
          have Tu5 : Hid (TbIn w5 (.slice A4 n4 c4) ([])) := tbin_of (hx4.1.below hb5) HUS.out
          clear hx4 hb4 hw5 hb5
          have pt : (w4.alloc (.cells #[.slice A4 n4 c4] 24)).cell? ⟨w.heap.size, 0, none⟩ = some (.slice A m c) := by rw [HW5.out]; exact St5.out.c0
          go_wp2_with fail
          rw [HW5.out]
          clear pt
          refine (bytes_by w5 _ zs _ Tt5.out HBS.out).mono ?_
          rintro e w6 ⟨y6, rfl, hy6, hb6⟩
          obtain ⟨Ay, ny, cy, rfl, NY, hny, hcy⟩ := hy6.byt.form
          have HB6 : Hid (Below w.heap.size w w6) := HB5.out.trans (hb6.mono HB5.out.size)
          have V6 : Hid (BytH w6 (.slice Ab nb cb) bs) := V5.out.below hb6
          have St6 : Hid (TbBox w6 (w.heap.size) (.slice A m c)) := St5.out.below hb6
          have Tt6 : Hid (TbIn w6 (.slice A m c) (zs)) := Tt5.out.below hb6
          have Su6 : Hid (TbBox w6 (w4.heap.size) (.slice A4 n4 c4)) := Su5.out.below hb6
          have Tu6 : Hid (TbIn w6 (.slice A4 n4 c4) ([])) := Tu5.out.below hb6
          have Y6 : Hid (BytH w6 (.slice Ay ny cy) xs) := hy6.byt
          clear hb6
          have pt := St6.out.c0
          have pu := Su6.out.c0
          go_wp2_with fail
          clear pt pu
          refine (kitown_any w6 _ xs Y6.out (by have := HXL.out; omega)).mono ?_
          rintro e w7 ⟨o7, rfl, ho7, hb7⟩
          have HB7 : Hid (Below w.heap.size w w7) := HB6.out.trans (hb7.mono HB6.out.size)
          have V7 : Hid (BytH w7 (.slice Ab nb cb) bs) := V6.out.below hb7
          have Y7 : Hid (BytH w7 (.slice Ay ny cy) xs) := Y6.out.below hb7
          have St7 : Hid (TbBox w7 (w.heap.size) (.slice A m c)) := St6.out.below hb7
          have Tt7 : Hid (TbIn w7 (.slice A m c) (zs)) := Tt6.out.below hb7
          have Su7 : Hid (TbBox w7 (w4.heap.size) (.slice A4 n4 c4)) := Su6.out.below hb7
          have Tu7 : Hid (TbIn w7 (.slice A4 n4 c4) ([])) := Tu6.out.below hb7
          have O7 : Hid (BytH w7 o7 xs) := ho7.byt
          clear hb7
          have pt := St7.out.c0
          have pu := Su7.out.c0
          go_wp2_with fail
          clear pt pu
          refine (read_by w7 _ xs _ O7.out (by have := HXL.out; omega) HR1.out).mono ?_
          rintro e w8 ⟨x8, rfl, hx8, hb8⟩
          obtain ⟨A8, n8, c8, rfl, _, _, _⟩ := hx8.1.form
          have HB8 : Hid (Below w.heap.size w w8) := HB7.out.trans (hb8.mono HB7.out.size)
          have V8 : Hid (BytH w8 (.slice Ab nb cb) bs) := V7.out.below hb8
          have Y8 : Hid (BytH w8 (.slice Ay ny cy) xs) := Y7.out.below hb8
          have St8 : Hid (TbBox w8 (w.heap.size) (.slice A m c)) := St7.out.below hb8
          have Tt8 : Hid (TbIn w8 (.slice A m c) (zs)) := Tt7.out.below hb8
          have Su8 : Hid (TbBox w8 (w4.heap.size) (.slice A4 n4 c4)) := Su7.out.below hb8
          have Tu8 : Hid (TbIn w8 (.slice A4 n4 c4) ([])) := Tu7.out.below hb8
          have HX8 := Lib.hid hx8
          have HUA : Hid (w4.heap.size < w7.heap.size) := Su7.out.lt
          have HTA : Hid (w.heap.size < w4.heap.size) := St4.out.lt
          have hys : ny = xs.length := NY.out
          have hle : 0 < ny := by rw [hys]; exact HX0.out
          obtain ⟨A2, n2, c2, hcut, bcut, _, _, _⟩ := (show Byt w8 _ _ from Y8.out).uptorun 30 elemByte sizeByte (ny - 1) (by omega) .i64
          have hcast : ((ny - 1 : Nat) : Int) = (ny : Int) - 1 := by omega
          rw [hcast] at hcut
          rw [hys] at bcut
          have BC : Hid (BytH w8 (.slice A2 n2 c2) (xs.take (xs.length - 1))) := bcut
          clear hx8 hb8 hys bcut hcast
          have pt := St8.out.c0
          go_wp2_with (refine wpList_storeS Su8.out tbInfo rfl _ _ rfl rfl (ds := [.slice A8 n8 c8]) rfl rfl (one_tb _ _ _) ?_; intro w9 hs hg hz
                       have HB9 : Hid (Below w.heap.size w w9) := HB8.out.grown hg HB8.out.size (fun k e => by cases e; have := HTA.out; omega)
                       have St9 : Hid (TbBox w9 w.heap.size (.slice A m c)) := St8.out.grown hg (by have := HTA.out; omega)
                       have Tt9 : Hid (TbIn w9 (.slice A m c) zs) := HVT.out.below HB9.out
                       have Su9 : Hid (TbBox w9 w4.heap.size (.slice A8 n8 c8)) := hs
                       have Tu9 : Hid (TbIn w9 (.slice A8 n8 c8) zs) := tbin_of (HX8.out.grown hg HUA.out).1 HOK.out
                       have Y9 : Hid (BytH w9 (.slice Ay ny cy) xs) := BytH.tbox Y8.out Su8.out hg
                       have C9 : Hid (BytH w9 (.slice A2 n2 c2) (xs.take (xs.length - 1))) := BytH.tbox BC.out Su8.out hg
                       clear hs hg hz pt
                       have pt := St9.out.c0
                       have pu := Su9.out.c0)
          clear pt pu
          refine (read_by w9 _ _ _ C9.out (by have := HXL.out; rw [List.length_take]; omega) HR2.out).mono ?_
          rintro e w10 ⟨x10, rfl, hx10, hb10⟩
          obtain ⟨A10, n10, c10, rfl, N10, _, _⟩ := hx10.1.form
          have HB10 : Hid (Below w.heap.size w w10) := HB9.out.trans (hb10.mono HB9.out.size)
          have Y10 : Hid (BytH w10 (.slice Ay ny cy) xs) := Y9.out.below hb10
          have St10 : Hid (TbBox w10 (w.heap.size) (.slice A m c)) := St9.out.below hb10
          have Tt10 : Hid (TbIn w10 (.slice A m c) (zs)) := Tt9.out.below hb10
          have Su10 : Hid (TbBox w10 (w4.heap.size) (.slice A8 n8 c8)) := Su9.out.below hb10
          have Tu10 : Hid (TbIn w10 (.slice A8 n8 c8) (zs)) := Tu9.out.below hb10
          obtain ⟨w11, hw11⟩ : ∃ u, (w10.alloc (.cells #[.slice A10 n10 c10] 24)) = u := ⟨_, rfl⟩
          have HW11 := Lib.hid hw11
          have hb11 : Below w10.heap.size w10 w11 := hw11 ▸ below_new _ _
          have HB11 : Hid (Below w.heap.size w w11) := HB10.out.trans (hb11.mono HB10.out.size)
          have Y11 : Hid (BytH w11 (.slice Ay ny cy) xs) := Y10.out.below hb11
          have St11 : Hid (TbBox w11 (w.heap.size) (.slice A m c)) := St10.out.below hb11
          have Tt11 : Hid (TbIn w11 (.slice A m c) (zs)) := Tt10.out.below hb11
          have Su11 : Hid (TbBox w11 (w4.heap.size) (.slice A8 n8 c8)) := Su10.out.below hb11
          have Tu11 : Hid (TbIn w11 (.slice A8 n8 c8) (zs)) := Tu10.out.below hb11
          have Sf11 : Hid (TbBox w11 w10.heap.size (.slice A10 n10 c10)) := hw11 ▸ SBox.new w10 24 [.slice A10 n10 c10]
          have Tf11 : Hid (TbIn w11 (.slice A10 n10 c10) ([])) := tbin_of (hx10.1.below hb11) tbOk_nil
          clear hx10 hb10 hw11 hb11
          have pt : (w10.alloc (.cells #[.slice A10 n10 c10] 24)).cell? ⟨w.heap.size, 0, none⟩ = some (.slice A m c) := by rw [HW11.out]; exact St11.out.c0
          have pu : (w10.alloc (.cells #[.slice A10 n10 c10] 24)).cell? ⟨w4.heap.size, 0, none⟩ = some (.slice A8 n8 c8) := by rw [HW11.out]; exact Su11.out.c0
          go_wp2_with fail
          rw [HW11.out]
          clear pt pu
          refine (kitown_any w11 _ xs Y11.out (by have := HXL.out; omega)).mono ?_
          rintro e w12 ⟨o12, rfl, ho12, hb12⟩
          have O12 := Lib.hid ho12
          have HKN := Lib.hid hb12
          clear ho12
          have HB12 : Hid (Below w.heap.size w w12) := HB11.out.trans (hb12.mono HB11.out.size)
          have Y12 : Hid (BytH w12 (.slice Ay ny cy) xs) := Y11.out.below hb12
          have St12 : Hid (TbBox w12 (w.heap.size) (.slice A m c)) := St11.out.below hb12
          have Tt12 : Hid (TbIn w12 (.slice A m c) (zs)) := Tt11.out.below hb12
          have Su12 : Hid (TbBox w12 (w4.heap.size) (.slice A8 n8 c8)) := Su11.out.below hb12
          have Tu12 : Hid (TbIn w12 (.slice A8 n8 c8) (zs)) := Tu11.out.below hb12
          clear hb12
          have pt := St12.out.c0
          have pu := Su12.out.c0
          go_wp2_with (at_builtin; refine wpList_app _ rfl (.tmp 74) (.tmp 75) _ rfl w11.heap.size 5 i0 _ Try.underlying30 hi0 hz0 hz1 hz2 rfl _ xs rfl (World.ownsRow.alloc O12.out _) (.slice (some ⟨w12.heap.size, 0, none⟩) 1 1) [0] rfl (Byt.lit1 w12 5 0 0 (0, 0) rfl) (by have := HXL.out; simp; omega) (by have := HKN.out.size; simp; omega) ?_; intro v13 w13 hown hgr hat
                       have hbk : Below w11.heap.size w11 w13 := below_own (HKN.out.alloc HKN.out.size _) (by have := HKN.out.size; simp; omega) (World.ownsRow.alloc O12.out _) hgr
                       have O13 : Hid (BytH w13 v13 (xs ++ [0])) := hown.byt
                       have HBK := Lib.hid hbk
                       clear hown hgr hat hbk)
          clear pt pu
          have HB13 : Hid (Below w.heap.size w w13) := HB11.out.trans (HBK.out.mono HB11.out.size)
          have Y13 : Hid (BytH w13 (.slice Ay ny cy) xs) := Y11.out.below HBK.out
          have St13 : Hid (TbBox w13 (w.heap.size) (.slice A m c)) := St11.out.below HBK.out
          have Tt13 : Hid (TbIn w13 (.slice A m c) (zs)) := Tt11.out.below HBK.out
          have Su13 : Hid (TbBox w13 (w4.heap.size) (.slice A8 n8 c8)) := Su11.out.below HBK.out
          have Tu13 : Hid (TbIn w13 (.slice A8 n8 c8) (zs)) := Tu11.out.below HBK.out
          refine (read_by w13 _ _ _ O13.out (by have := HXL.out; rw [List.length_append]; simp; omega) HR3.out).mono ?_
          rintro e w14 ⟨x14, rfl, hx14, hb14⟩
          obtain ⟨A14, n14, c14, rfl, N14, _, _⟩ := hx14.1.form
          have HB14 : Hid (Below w.heap.size w w14) := HB13.out.trans (hb14.mono HB13.out.size)
          have Y14 : Hid (BytH w14 (.slice Ay ny cy) xs) := Y13.out.below hb14
          have St14 : Hid (TbBox w14 (w.heap.size) (.slice A m c)) := St13.out.below hb14
          have Tt14 : Hid (TbIn w14 (.slice A m c) (zs)) := Tt13.out.below hb14
          have Su14 : Hid (TbBox w14 (w4.heap.size) (.slice A8 n8 c8)) := Su13.out.below hb14
          have Tu14 : Hid (TbIn w14 (.slice A8 n8 c8) (zs)) := Tu13.out.below hb14
          obtain ⟨w15, hw15⟩ : ∃ u, (w14.alloc (.cells #[.slice A14 n14 c14] 24)) = u := ⟨_, rfl⟩
          have HW15 := Lib.hid hw15
          have hb15 : Below w14.heap.size w14 w15 := hw15 ▸ below_new _ _
          have HB15 : Hid (Below w.heap.size w w15) := HB14.out.trans (hb15.mono HB14.out.size)
          have Y15 : Hid (BytH w15 (.slice Ay ny cy) xs) := Y14.out.below hb15
          have St15 : Hid (TbBox w15 (w.heap.size) (.slice A m c)) := St14.out.below hb15
          have Tt15 : Hid (TbIn w15 (.slice A m c) (zs)) := Tt14.out.below hb15
          have Su15 : Hid (TbBox w15 (w4.heap.size) (.slice A8 n8 c8)) := Su14.out.below hb15
          have Tu15 : Hid (TbIn w15 (.slice A8 n8 c8) (zs)) := Tu14.out.below hb15
          have Sg15 : Hid (TbBox w15 w14.heap.size (.slice A14 n14 c14)) := hw15 ▸ SBox.new w14 24 [.slice A14 n14 c14]
          have Tg15 : Hid (TbIn w15 (.slice A14 n14 c14) ([])) := tbin_of (hx14.1.below hb15) tbOk_nil
          clear hx14 hb14 hw15 hb15
          have pt : (w14.alloc (.cells #[.slice A14 n14 c14] 24)).cell? ⟨w.heap.size, 0, none⟩ = some (.slice A m c) := by rw [HW15.out]; exact St15.out.c0
          have pu : (w14.alloc (.cells #[.slice A14 n14 c14] 24)).cell? ⟨w4.heap.size, 0, none⟩ = some (.slice A8 n8 c8) := by rw [HW15.out]; exact Su15.out.c0
          go_wp2_with fail
          rw [HW15.out]
          clear pt pu
          refine (dec_refl zs ▸ zints_any w15 _ _ zs zs Tu15.out.row Tt15.out.row).mono ?_
          rintro e w16 ⟨rfl, hb16⟩
          have HB16 : Hid (Below w.heap.size w w16) := HB15.out.trans (hb16.mono HB15.out.size)
          have Y16 : Hid (BytH w16 (.slice Ay ny cy) xs) := Y15.out.below hb16
          have St16 : Hid (TbBox w16 (w.heap.size) (.slice A m c)) := St15.out.below hb16
          have Tt16 : Hid (TbIn w16 (.slice A m c) (zs)) := Tt15.out.below hb16
          have Su16 : Hid (TbBox w16 (w4.heap.size) (.slice A8 n8 c8)) := Su15.out.below hb16
          have Tu16 : Hid (TbIn w16 (.slice A8 n8 c8) (zs)) := Tu15.out.below hb16
          clear hb16
          have pt := St16.out.c0
          have pu := Su16.out.c0
          go_wp2_with fail
          clear pt pu
          go_ret
          exact ⟨rfl, HB16.out⟩
        · have HBS : Hid (bytesT zs = ([], 2)) := if_neg hok
          have HCK : Hid (chkT zs = 2) := if_neg hok
          clear hok
          go_enter Try.func6, Try.ntmps6
          go_wp2_with fail
          rw [HW1.out]
          refine (lives10_any w1).mono ?_
          rintro e w2 ⟨rfl, hb2⟩
          have HB2 : Hid (Below w.heap.size w w2) := HB1.out.trans (hb2.mono HB1.out.size)
          have V2 : Hid (BytH w2 (.slice Ab nb cb) bs) := V1.out.below hb2
          have St2 : Hid (TbBox w2 (w.heap.size) (.slice A m c)) := St1.out.below hb2
          have Tt2 : Hid (TbIn w2 (.slice A m c) (zs)) := Tt1.out.below hb2
          clear hb2
          have pt := St2.out.c0
          go_wp2_with fail
          clear pt
          refine (kitown_any w2 (.slice Ab nb cb) bs V2.out (by have := HN.out; omega)).mono ?_
          rintro e w3 ⟨o3, rfl, ho3, hb3⟩
          have HB3 : Hid (Below w.heap.size w w3) := HB2.out.trans (hb3.mono HB2.out.size)
          have V3 : Hid (BytH w3 (.slice Ab nb cb) bs) := V2.out.below hb3
          have St3 : Hid (TbBox w3 (w.heap.size) (.slice A m c)) := St2.out.below hb3
          have Tt3 : Hid (TbIn w3 (.slice A m c) (zs)) := Tt2.out.below hb3
          have O3 : Hid (BytH w3 o3 bs) := ho3.byt
          clear hb3
          have pt := St3.out.c0
          go_wp2_with fail
          clear pt
          refine (read_by w3 _ bs _ O3.out (by have := HN.out; omega) HRD.out).mono ?_
          rintro e w4 ⟨x4, rfl, hx4, hb4⟩
          obtain ⟨A4, n4, c4, rfl, N4, _, _⟩ := hx4.1.form
          have HB4 : Hid (Below w.heap.size w w4) := HB3.out.trans (hb4.mono HB3.out.size)
          have V4 : Hid (BytH w4 (.slice Ab nb cb) bs) := V3.out.below hb4
          have St4 : Hid (TbBox w4 (w.heap.size) (.slice A m c)) := St3.out.below hb4
          have Tt4 : Hid (TbIn w4 (.slice A m c) (zs)) := Tt3.out.below hb4
          obtain ⟨w5, hw5⟩ : ∃ u, (w4.alloc (.cells #[.slice A4 n4 c4] 24)) = u := ⟨_, rfl⟩
          have HW5 := Lib.hid hw5
          have hb5 : Below w4.heap.size w4 w5 := hw5 ▸ below_new _ _
          have HB5 : Hid (Below w.heap.size w w5) := HB4.out.trans (hb5.mono HB4.out.size)
          have V5 : Hid (BytH w5 (.slice Ab nb cb) bs) := V4.out.below hb5
          have St5 : Hid (TbBox w5 (w.heap.size) (.slice A m c)) := St4.out.below hb5
          have Tt5 : Hid (TbIn w5 (.slice A m c) (zs)) := Tt4.out.below hb5
          have Su5 : Hid (TbBox w5 w4.heap.size (.slice A4 n4 c4)) := hw5 ▸ SBox.new w4 24 [.slice A4 n4 c4]
          have Tu5 : Hid (TbIn w5 (.slice A4 n4 c4) ([])) := tbin_of (hx4.1.below hb5) HUS.out
          clear hx4 hb4 hw5 hb5
          have pt : (w4.alloc (.cells #[.slice A4 n4 c4] 24)).cell? ⟨w.heap.size, 0, none⟩ = some (.slice A m c) := by rw [HW5.out]; exact St5.out.c0
          go_wp2_with fail
          rw [HW5.out]
          clear pt
          refine (bytes_by w5 _ zs _ Tt5.out HBS.out).mono ?_
          rintro e w6 ⟨y6, rfl, hy6, hb6⟩
          clear hy6
          have HB6 : Hid (Below w.heap.size w w6) := HB5.out.trans (hb6.mono HB5.out.size)
          have V6 : Hid (BytH w6 (.slice Ab nb cb) bs) := V5.out.below hb6
          have St6 : Hid (TbBox w6 (w.heap.size) (.slice A m c)) := St5.out.below hb6
          have Tt6 : Hid (TbIn w6 (.slice A m c) (zs)) := Tt5.out.below hb6
          have Su6 : Hid (TbBox w6 (w4.heap.size) (.slice A4 n4 c4)) := Su5.out.below hb6
          have Tu6 : Hid (TbIn w6 (.slice A4 n4 c4) ([])) := Tu5.out.below hb6
          clear hb6
          have pt := St6.out.c0
          have pu := Su6.out.c0
          go_wp2_with fail
          clear pt pu
          refine (HCK.out ▸ tcheck_any w6 _ zs Tt6.out).mono ?_
          rintro e w7 ⟨rfl, hb7⟩
          have HB7 : Hid (Below w.heap.size w w7) := HB6.out.trans (hb7.mono HB6.out.size)
          have V7 : Hid (BytH w7 (.slice Ab nb cb) bs) := V6.out.below hb7
          have St7 : Hid (TbBox w7 (w.heap.size) (.slice A m c)) := St6.out.below hb7
          have Tt7 : Hid (TbIn w7 (.slice A m c) (zs)) := Tt6.out.below hb7
          have Su7 : Hid (TbBox w7 (w4.heap.size) (.slice A4 n4 c4)) := Su6.out.below hb7
          have Tu7 : Hid (TbIn w7 (.slice A4 n4 c4) ([])) := Tu6.out.below hb7
          clear hb7
          have pt := St7.out.c0
          have pu := Su7.out.c0
          go_wp2_with fail
          clear pt pu
          go_ret
          exact ⟨rfl, HB7.out⟩
    · have hnb4 : (1000 : Int) < (nb : Int) := by omega
      clear b0 b1 hw1 hl hm hVT hb4 hnl
      go_enter Try.func6, Try.ntmps6
      go_wp2_with fail
      rw [HW1.out]
      refine (lives10_any w1).mono ?_
      rintro e w2 ⟨rfl, hb2⟩
      have HB2 : Hid (Below w.heap.size w w2) := HB1.out.trans (hb2.mono HB1.out.size)
      have V2 : Hid (BytH w2 (.slice Ab nb cb) bs) := V1.out.below hb2
      have St2 : Hid (TbBox w2 (w.heap.size) (.slice A m c)) := St1.out.below hb2
      have Tt2 : Hid (TbIn w2 (.slice A m c) (zs)) := Tt1.out.below hb2
      clear hb2
      have pt := St2.out.c0
      go_wp2_with fail
      clear pt
      go_ret
      exact ⟨rfl, HB2.out⟩
  · have hm4 : (400 : Int) < (m : Int) := by omega
    clear b0 b1 hw1 hl hm
    go_enter Try.func6, Try.ntmps6
    go_wp2_with fail
    rw [HW1.out]
    refine (lives10_any w1).mono ?_
    rintro e w2 ⟨rfl, hb2⟩
    have HB2 : Hid (Below w.heap.size w w2) := HB1.out.trans (hb2.mono HB1.out.size)
    have St2 : Hid (TbBox w2 w.heap.size (.slice A m c)) := St1.out.below hb2
    clear hb2
    have pt := St2.out.c0
    go_wp2_with fail
    go_ret
    exact ⟨rfl, HB2.out⟩

set_option maxRecDepth 100000 in
theorem lifted (os : Os) (started : os.Started) (H : Type) (enc : TypeId × Value → H) :
    ReturnsInHanded {} Try.checked os 6 .any (Rows.tableBackSpec.pre6 enc Try.prog Try.f6 Rows.tableBackRow.domain false) (Rows.tableBackSpec.post enc Try.prog Try.f6 false true false false) := by
  refine returnsInHanded_of_change (C := Try.checked) ownKnobs started (by kernel_rfl) Try.func6
    (ChangeSpec.witness6 (enc := enc) (C := Try.checked) false ⟨#[], #[.agg #[.slice none 0 0], .slice none 0 0], []⟩ 8 (by kernel_rfl) (by kernel_rfl) (by kernel_rfl) (by kernel_rfl)) ?_
  intro W base args ds gs before hval0 hW hcnd _
  have hval : ∀ (j : Nat) t v, Try.f6.params[j]? = some t → args[j]? = some v → Value.okWide Try.prog W .any base t v := hval0
  have hW' := hW
  obtain ⟨p, q, hA0, hV, rfl, hfz, hnd⟩ := hW
  have hA : DataW.TrodAll enc Try.prog W 0 (fun _ => true) true Try.f6.params.toList args.toList ds p := hA0
  rw [Try.params6] at hA hval
  obtain ⟨v0, vs0, d0, ds0, p0, q0, hargs, rfl, rfl, h0, r0⟩ := trodAll_cons hA
  obtain ⟨v1, vs1, d1, ds1, p1, q1, rfl, rfl, rfl, h1, r1⟩ := trodAll_cons r0
  obtain ⟨rfl, rfl, rfl⟩ := trodAll_nil r1
  obtain rfl : args = #[v0, v1] := by cases args; simp_all
  obtain ⟨rfl, rfl⟩ := trodVars_none hV
  have k0 := h0
  have lt0 : ∀ x ∈ p0, x.block < W.heap.size := by obtain ⟨m, hm⟩ := k0; exact DataW.trod_lt m _ _ _ hm
  obtain ⟨x0, zs0, rfl, b0, zb0⟩ := open_table (hval 0 24 v0 rfl rfl) h0
  have k1 := h1
  have lt1 : ∀ x ∈ p1, x.block < W.heap.size := by obtain ⟨m, hm⟩ := k1; exact DataW.trod_lt m _ _ _ hm
  obtain ⟨l1, b1⟩ := open_bytes (hval 1 30 v1 rfl rfl) h1
  clear hA0 hval0
  refine (walk W x0 zs0 v1 l1 b0 zb0 b1).mono fun e W' ⟨he, bel⟩ => ?_
  subst he
  exact ⟨_, rfl, _, _, _, [], _, [], hW', trodAll_mk1 (shut_bool Try.underlying4 _), (trodAll_cons_mk (Below.trod laidOuts (by kernel_rfl) (of_decide_eq_true (by kernel_rfl)) k0 bel lt0) (trodAll_cons_mk (Below.trod laidOuts (by kernel_rfl) (of_decide_eq_true (by kernel_rfl)) k1 bel lt1) trodAll_mk0)), rfl, bel.frame _, fun h => by cases h⟩

theorem over : Rows.tableBackRow.holds Try.pinned (OpenSpec.ofChange Rows.tableBackSpec) :=
  OpenClaim.holds_of_wide 6 Try.f6 rfl rfl rfl rfl rfl rfl rfl ⟨rfl, rfl, rfl, rfl, rfl⟩ rfl rfl rfl rfl rfl (by kernel_rfl) Try.func6 (by kernel_rfl)
    (of_decide_eq_true (by kernel_rfl)) (by unfold Func.isWrapper; first | (rw [if_pos (by decide +kernel)]; kernel_rfl) | (rw [if_neg (by decide +kernel)]; exact ⟨rfl, rfl⟩))
    (fun os started H enc _ => lifted os started H enc)

theorem proved : Rows.TableBackSaid := over
#print axioms proved
end Go.Proofs.Ythakkaffjnkhgaa.tableBack

