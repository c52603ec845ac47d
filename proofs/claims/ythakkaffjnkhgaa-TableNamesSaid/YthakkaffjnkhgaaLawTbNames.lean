/-
  The statement TableNames: the chapter's examples come out as it tells. Conditions: none.
-/
import Derived.Test.YthakkaffjnkhgaaTbI
namespace Go.Proofs.Ythakkaffjnkhgaa.tableNames
open Go.ChangeShapes Go.WideShapes Go.ChangeAt Go.RowKit Go.Maps
set_option maxRecDepth 100000
set_option linter.unusedVariables false
set_option linter.unusedSimpArgs false

theorem n_ok : tbOk [5] := by decide +kernel
theorem n_a : setT [] 0 5 = ([5], 0) := by decide +kernel
theorem n_b : setT [5] 1 5 = ([], 7) := by decide +kernel
theorem n_c : setT [5] 1 1 = ([], 2) := by decide +kernel
theorem n_d : clearT [5] 1 = ([], 6) := by decide +kernel
theorem n_e : readTb [1, 0] = ([], 4) := by decide +kernel
theorem n_read (w : World) (v : Value) (h : Byt w v [1, 0]) : Calls Try.prog 10 #[v] w (TbOut w ([], 4)) := by
  have := tread_any w v [1, 0] h (by simp)
  rw [n_e] at this
  exact this
theorem n_f : findT [5] 5 = (0, true) := by decide +kernel
theorem n_g : (pagesT [5]).length = 1 := by decide +kernel
theorem n_h : chkT [3, 3] = 2 := by decide +kernel
theorem n_i : chkT [0] = 2 := by decide +kernel
theorem n_in (w : World) (A : Option Addr) (n c : Nat) (zs : List Int) (h : Rowz w (.slice A n c) (intC zs)) (h1 : zs.length ≤ 65536) (h2 : ∀ z ∈ zs, 0 ≤ z ∧ z ≤ 4095) : TbIn w (.slice A n c) zs := ⟨h, h1, fun j => by
  by_cases hj : j < zs.length
  · rw [atZ_lt hj]; have := h2 _ (List.getElem_mem hj); omega
  · rw [atZ_ge (by omega)]; omega⟩
set_option maxRecDepth 100000 in
set_option maxHeartbeats 8000000 in
theorem walk (w : World) : Calls Try.prog 3 #[] w fun e w' => e = .returned (.bool true) ∧ Below w.heap.size w w' := by
  have HB0 : Hid (Below w.heap.size w w) := Below.refl _ _
  go_enter Try.func3, Try.ntmps3
  go_wp2_with fail
  refine (n_a ▸ tset_any w _ [] 0 5 (tbin_nil w)).mono ?_
  rintro e w1 ⟨x1, rfl, hx1, hb1⟩
  obtain ⟨A1, n1, c1, rfl, N1, _, _⟩ := hx1.1.form
  have HB1 : Hid (Below w.heap.size w w1) := HB0.out.trans (hb1.mono HB0.out.size)
  obtain ⟨w2, hw2⟩ : ∃ u, (w1.alloc (.cells #[.slice A1 n1 c1] 24)) = u := ⟨_, rfl⟩
  have HW2 := Lib.hid hw2
  have hb2 : Below w1.heap.size w1 w2 := hw2 ▸ below_new _ _
  have HB2 : Hid (Below w.heap.size w w2) := HB1.out.trans (hb2.mono HB1.out.size)
  have St2 : Hid (TbBox w2 w1.heap.size (.slice A1 n1 c1)) := hw2 ▸ SBox.new w1 24 [.slice A1 n1 c1]
  have Tt2 : Hid (TbIn w2 (.slice A1 n1 c1) ([5])) := tbin_of (hx1.1.below hb2) n_ok
  clear hx1 hb1 hw2 hb2
  go_wp2_with fail
  rw [HW2.out]
  refine (n_b ▸ tset_any w2 _ _ 1 5 Tt2.out).mono ?_
  rintro e w3 ⟨x3, rfl, hx3, hb3⟩
  obtain ⟨A3, n3, c3, rfl, N3, _, _⟩ := hx3.1.form
  have HB3 : Hid (Below w.heap.size w w3) := HB2.out.trans (hb3.mono HB2.out.size)
  have St3 : Hid (TbBox w3 (w1.heap.size) (.slice A1 n1 c1)) := St2.out.below hb3
  have Tt3 : Hid (TbIn w3 (.slice A1 n1 c1) ([5])) := Tt2.out.below hb3
  obtain ⟨w4, hw4⟩ : ∃ u, (w3.alloc (.cells #[.slice A3 n3 c3] 24)) = u := ⟨_, rfl⟩
  have HW4 := Lib.hid hw4
  have hb4 : Below w3.heap.size w3 w4 := hw4 ▸ below_new _ _
  have HB4 : Hid (Below w.heap.size w w4) := HB3.out.trans (hb4.mono HB3.out.size)
  have St4 : Hid (TbBox w4 (w1.heap.size) (.slice A1 n1 c1)) := St3.out.below hb4
  have Tt4 : Hid (TbIn w4 (.slice A1 n1 c1) ([5])) := Tt3.out.below hb4
  have Se4 : Hid (TbBox w4 w3.heap.size (.slice A3 n3 c3)) := hw4 ▸ SBox.new w3 24 [.slice A3 n3 c3]
  have Te4 : Hid (TbIn w4 (.slice A3 n3 c3) ([])) := tbin_of (hx3.1.below hb4) tbOk_nil
  clear hx3 hb3 hw4 hb4
  have pt : (w3.alloc (.cells #[.slice A3 n3 c3] 24)).cell? ⟨w1.heap.size, 0, none⟩ = some (.slice A1 n1 c1) := by rw [HW4.out]; exact St4.out.c0
  go_wp2_with fail
  rw [HW4.out]
  clear pt
  refine (n_c ▸ tset_any w4 _ _ 1 1 Tt4.out).mono ?_
  rintro e w5 ⟨x5, rfl, hx5, hb5⟩
  obtain ⟨A5, n5, c5, rfl, N5, _, _⟩ := hx5.1.form
  have HB5 : Hid (Below w.heap.size w w5) := HB4.out.trans (hb5.mono HB4.out.size)
  have St5 : Hid (TbBox w5 (w1.heap.size) (.slice A1 n1 c1)) := St4.out.below hb5
  have Tt5 : Hid (TbIn w5 (.slice A1 n1 c1) ([5])) := Tt4.out.below hb5
  have Se5 : Hid (TbBox w5 (w3.heap.size) (.slice A3 n3 c3)) := Se4.out.below hb5
  have Te5 : Hid (TbIn w5 (.slice A3 n3 c3) ([])) := Te4.out.below hb5
  obtain ⟨w6, hw6⟩ : ∃ u, (w5.alloc (.cells #[.slice A5 n5 c5] 24)) = u := ⟨_, rfl⟩
  have HW6 := Lib.hid hw6
  have hb6 : Below w5.heap.size w5 w6 := hw6 ▸ below_new _ _
  have HB6 : Hid (Below w.heap.size w w6) := HB5.out.trans (hb6.mono HB5.out.size)
  have St6 : Hid (TbBox w6 (w1.heap.size) (.slice A1 n1 c1)) := St5.out.below hb6
  have Tt6 : Hid (TbIn w6 (.slice A1 n1 c1) ([5])) := Tt5.out.below hb6
  have Se6 : Hid (TbBox w6 (w3.heap.size) (.slice A3 n3 c3)) := Se5.out.below hb6
  have Te6 : Hid (TbIn w6 (.slice A3 n3 c3) ([])) := Te5.out.below hb6
  have Sf6 : Hid (TbBox w6 w5.heap.size (.slice A5 n5 c5)) := hw6 ▸ SBox.new w5 24 [.slice A5 n5 c5]
  have Tf6 : Hid (TbIn w6 (.slice A5 n5 c5) ([])) := tbin_of (hx5.1.below hb6) tbOk_nil
  clear hx5 hb5 hw6 hb6
  have pt : (w5.alloc (.cells #[.slice A5 n5 c5] 24)).cell? ⟨w1.heap.size, 0, none⟩ = some (.slice A1 n1 c1) := by rw [HW6.out]; exact St6.out.c0
  have pe : (w5.alloc (.cells #[.slice A5 n5 c5] 24)).cell? ⟨w3.heap.size, 0, none⟩ = some (.slice A3 n3 c3) := by rw [HW6.out]; exact Se6.out.c0
  go_wp2_with fail
  rw [HW6.out]
  clear pt pe
  refine (n_d ▸ tclear_any w6 _ _ 1 Tt6.out).mono ?_
  rintro e w7 ⟨x7, rfl, hx7, hb7⟩
  obtain ⟨A7, n7, c7, rfl, N7, _, _⟩ := hx7.1.form
  have HB7 : Hid (Below w.heap.size w w7) := HB6.out.trans (hb7.mono HB6.out.size)
  have St7 : Hid (TbBox w7 (w1.heap.size) (.slice A1 n1 c1)) := St6.out.below hb7
  have Tt7 : Hid (TbIn w7 (.slice A1 n1 c1) ([5])) := Tt6.out.below hb7
  have Se7 : Hid (TbBox w7 (w3.heap.size) (.slice A3 n3 c3)) := Se6.out.below hb7
  have Te7 : Hid (TbIn w7 (.slice A3 n3 c3) ([])) := Te6.out.below hb7
  have Sf7 : Hid (TbBox w7 (w5.heap.size) (.slice A5 n5 c5)) := Sf6.out.below hb7
  have Tf7 : Hid (TbIn w7 (.slice A5 n5 c5) ([])) := Tf6.out.below hb7
  obtain ⟨w8, hw8⟩ : ∃ u, (w7.alloc (.cells #[.slice A7 n7 c7] 24)) = u := ⟨_, rfl⟩
  have HW8 := Lib.hid hw8
  have hb8 : Below w7.heap.size w7 w8 := hw8 ▸ below_new _ _
  have HB8 : Hid (Below w.heap.size w w8) := HB7.out.trans (hb8.mono HB7.out.size)
  have St8 : Hid (TbBox w8 (w1.heap.size) (.slice A1 n1 c1)) := St7.out.below hb8
  have Tt8 : Hid (TbIn w8 (.slice A1 n1 c1) ([5])) := Tt7.out.below hb8
  have Se8 : Hid (TbBox w8 (w3.heap.size) (.slice A3 n3 c3)) := Se7.out.below hb8
  have Te8 : Hid (TbIn w8 (.slice A3 n3 c3) ([])) := Te7.out.below hb8
  have Sf8 : Hid (TbBox w8 (w5.heap.size) (.slice A5 n5 c5)) := Sf7.out.below hb8
  have Tf8 : Hid (TbIn w8 (.slice A5 n5 c5) ([])) := Tf7.out.below hb8
  have Sg8 : Hid (TbBox w8 w7.heap.size (.slice A7 n7 c7)) := hw8 ▸ SBox.new w7 24 [.slice A7 n7 c7]
  have Tg8 : Hid (TbIn w8 (.slice A7 n7 c7) ([])) := tbin_of (hx7.1.below hb8) tbOk_nil
  clear hx7 hb7 hw8 hb8
  have pt : (w7.alloc (.cells #[.slice A7 n7 c7] 24)).cell? ⟨w1.heap.size, 0, none⟩ = some (.slice A1 n1 c1) := by rw [HW8.out]; exact St8.out.c0
  have pe : (w7.alloc (.cells #[.slice A7 n7 c7] 24)).cell? ⟨w3.heap.size, 0, none⟩ = some (.slice A3 n3 c3) := by rw [HW8.out]; exact Se8.out.c0
  have pf : (w7.alloc (.cells #[.slice A7 n7 c7] 24)).cell? ⟨w5.heap.size, 0, none⟩ = some (.slice A5 n5 c5) := by rw [HW8.out]; exact Sf8.out.c0
  go_wp2_with fail
  rw [HW8.out]
  clear pt pe pf
  obtain ⟨w9, hw9⟩ : ∃ u, w8.alloc (.cells #[.int .u8 1, .int .u8 0] 5) = u := ⟨_, rfl⟩
  have hb9 : Below w8.heap.size w8 w9 := hw9 ▸ below_new _ _
  have hz : w8.heap.size = w7.heap.size + 1 := by rw [← HW8.out]; simp
  have hy : Byt w9 (.slice (some ⟨w7.heap.size + 1, 0, none⟩) 2 2) [1, 0] := by
    rw [← hz]
    exact hw9 ▸ Byt.lit w8 5 [1, 0] (0, 0) (by simp [maxLen])
  have HB9 : Hid (Below w.heap.size w w9) := HB8.out.trans (hb9.mono HB8.out.size)
  have St9 : Hid (TbBox w9 (w1.heap.size) (.slice A1 n1 c1)) := St8.out.below hb9
  have Tt9 : Hid (TbIn w9 (.slice A1 n1 c1) ([5])) := Tt8.out.below hb9
  have Se9 : Hid (TbBox w9 (w3.heap.size) (.slice A3 n3 c3)) := Se8.out.below hb9
  have Te9 : Hid (TbIn w9 (.slice A3 n3 c3) ([])) := Te8.out.below hb9
  have Sf9 : Hid (TbBox w9 (w5.heap.size) (.slice A5 n5 c5)) := Sf8.out.below hb9
  have Tf9 : Hid (TbIn w9 (.slice A5 n5 c5) ([])) := Tf8.out.below hb9
  have Sg9 : Hid (TbBox w9 (w7.heap.size) (.slice A7 n7 c7)) := Sg8.out.below hb9
  have Tg9 : Hid (TbIn w9 (.slice A7 n7 c7) ([])) := Tg8.out.below hb9
  have HY := Lib.hid hy
  have HW9 := Lib.hid hw9
  clear hw9 hb9 hy hz
  rw [HW9.out]
  refine (n_read w9 _ HY.out).mono ?_
  rintro e w10 ⟨x10, rfl, hx10, hb10⟩
  obtain ⟨A10, n10, c10, rfl, N10, _, _⟩ := hx10.1.form
  have HB10 : Hid (Below w.heap.size w w10) := HB9.out.trans (hb10.mono HB9.out.size)
  have St10 : Hid (TbBox w10 (w1.heap.size) (.slice A1 n1 c1)) := St9.out.below hb10
  have Tt10 : Hid (TbIn w10 (.slice A1 n1 c1) ([5])) := Tt9.out.below hb10
  have Se10 : Hid (TbBox w10 (w3.heap.size) (.slice A3 n3 c3)) := Se9.out.below hb10
  have Te10 : Hid (TbIn w10 (.slice A3 n3 c3) ([])) := Te9.out.below hb10
  have Sf10 : Hid (TbBox w10 (w5.heap.size) (.slice A5 n5 c5)) := Sf9.out.below hb10
  have Tf10 : Hid (TbIn w10 (.slice A5 n5 c5) ([])) := Tf9.out.below hb10
  have Sg10 : Hid (TbBox w10 (w7.heap.size) (.slice A7 n7 c7)) := Sg9.out.below hb10
  have Tg10 : Hid (TbIn w10 (.slice A7 n7 c7) ([])) := Tg9.out.below hb10
  obtain ⟨w11, hw11⟩ : ∃ u, (w10.alloc (.cells #[.slice A10 n10 c10] 24)) = u := ⟨_, rfl⟩
  have HW11 := Lib.hid hw11
  have hb11 : Below w10.heap.size w10 w11 := hw11 ▸ below_new _ _
  have HB11 : Hid (Below w.heap.size w w11) := HB10.out.trans (hb11.mono HB10.out.size)
  have St11 : Hid (TbBox w11 (w1.heap.size) (.slice A1 n1 c1)) := St10.out.below hb11
  have Tt11 : Hid (TbIn w11 (.slice A1 n1 c1) ([5])) := Tt10.out.below hb11
  have Se11 : Hid (TbBox w11 (w3.heap.size) (.slice A3 n3 c3)) := Se10.out.below hb11
  have Te11 : Hid (TbIn w11 (.slice A3 n3 c3) ([])) := Te10.out.below hb11
  have Sf11 : Hid (TbBox w11 (w5.heap.size) (.slice A5 n5 c5)) := Sf10.out.below hb11
  have Tf11 : Hid (TbIn w11 (.slice A5 n5 c5) ([])) := Tf10.out.below hb11
  have Sg11 : Hid (TbBox w11 (w7.heap.size) (.slice A7 n7 c7)) := Sg10.out.below hb11
  have Tg11 : Hid (TbIn w11 (.slice A7 n7 c7) ([])) := Tg10.out.below hb11
  have Sh11 : Hid (TbBox w11 w10.heap.size (.slice A10 n10 c10)) := hw11 ▸ SBox.new w10 24 [.slice A10 n10 c10]
  have Th11 : Hid (TbIn w11 (.slice A10 n10 c10) ([])) := tbin_of (hx10.1.below hb11) tbOk_nil
  clear hx10 hb10 hw11 hb11
  have pt : (w10.alloc (.cells #[.slice A10 n10 c10] 24)).cell? ⟨w1.heap.size, 0, none⟩ = some (.slice A1 n1 c1) := by rw [HW11.out]; exact St11.out.c0
  have pe : (w10.alloc (.cells #[.slice A10 n10 c10] 24)).cell? ⟨w3.heap.size, 0, none⟩ = some (.slice A3 n3 c3) := by rw [HW11.out]; exact Se11.out.c0
  have pf : (w10.alloc (.cells #[.slice A10 n10 c10] 24)).cell? ⟨w5.heap.size, 0, none⟩ = some (.slice A5 n5 c5) := by rw [HW11.out]; exact Sf11.out.c0
  have pg : (w10.alloc (.cells #[.slice A10 n10 c10] 24)).cell? ⟨w7.heap.size, 0, none⟩ = some (.slice A7 n7 c7) := by rw [HW11.out]; exact Sg11.out.c0
  go_wp2_with fail
  rw [HW11.out]
  clear pt pe pf pg
  refine (n_f ▸ tfind_any w11 _ _ 5 Tt11.out).mono ?_
  rintro e w12 ⟨rfl, hb12⟩
  have HB12 : Hid (Below w.heap.size w w12) := HB11.out.trans (hb12.mono HB11.out.size)
  have St12 : Hid (TbBox w12 (w1.heap.size) (.slice A1 n1 c1)) := St11.out.below hb12
  have Tt12 : Hid (TbIn w12 (.slice A1 n1 c1) ([5])) := Tt11.out.below hb12
  have Se12 : Hid (TbBox w12 (w3.heap.size) (.slice A3 n3 c3)) := Se11.out.below hb12
  have Te12 : Hid (TbIn w12 (.slice A3 n3 c3) ([])) := Te11.out.below hb12
  have Sf12 : Hid (TbBox w12 (w5.heap.size) (.slice A5 n5 c5)) := Sf11.out.below hb12
  have Tf12 : Hid (TbIn w12 (.slice A5 n5 c5) ([])) := Tf11.out.below hb12
  have Sg12 : Hid (TbBox w12 (w7.heap.size) (.slice A7 n7 c7)) := Sg11.out.below hb12
  have Tg12 : Hid (TbIn w12 (.slice A7 n7 c7) ([])) := Tg11.out.below hb12
  have Sh12 : Hid (TbBox w12 (w10.heap.size) (.slice A10 n10 c10)) := Sh11.out.below hb12
  have Th12 : Hid (TbIn w12 (.slice A10 n10 c10) ([])) := Th11.out.below hb12
  clear hb12
  have pt := St12.out.c0
  have pe := Se12.out.c0
  have pf := Sf12.out.c0
  have pg := Sg12.out.c0
  have ph := Sh12.out.c0
  go_wp2_with fail
  clear pt pe pf pg ph
  refine (lives10_any w12).mono ?_
  rintro e w13 ⟨rfl, hb13⟩
  have HB13 : Hid (Below w.heap.size w w13) := HB12.out.trans (hb13.mono HB12.out.size)
  have St13 : Hid (TbBox w13 (w1.heap.size) (.slice A1 n1 c1)) := St12.out.below hb13
  have Tt13 : Hid (TbIn w13 (.slice A1 n1 c1) ([5])) := Tt12.out.below hb13
  have Se13 : Hid (TbBox w13 (w3.heap.size) (.slice A3 n3 c3)) := Se12.out.below hb13
  have Te13 : Hid (TbIn w13 (.slice A3 n3 c3) ([])) := Te12.out.below hb13
  have Sf13 : Hid (TbBox w13 (w5.heap.size) (.slice A5 n5 c5)) := Sf12.out.below hb13
  have Tf13 : Hid (TbIn w13 (.slice A5 n5 c5) ([])) := Tf12.out.below hb13
  have Sg13 : Hid (TbBox w13 (w7.heap.size) (.slice A7 n7 c7)) := Sg12.out.below hb13
  have Tg13 : Hid (TbIn w13 (.slice A7 n7 c7) ([])) := Tg12.out.below hb13
  have Sh13 : Hid (TbBox w13 (w10.heap.size) (.slice A10 n10 c10)) := Sh12.out.below hb13
  have Th13 : Hid (TbIn w13 (.slice A10 n10 c10) ([])) := Th12.out.below hb13
  clear hb13
  have pt := St13.out.c0
  have pe := Se13.out.c0
  have pf := Sf13.out.c0
  have pg := Sg13.out.c0
  have ph := Sh13.out.c0
  go_wp2_with fail
  clear pt pe pf pg ph
  refine (n_g ▸ tcount_any w13 _ _ Tt13.out).mono ?_
  rintro e w14 ⟨rfl, hb14⟩
  have HB14 : Hid (Below w.heap.size w w14) := HB13.out.trans (hb14.mono HB13.out.size)
  have St14 : Hid (TbBox w14 (w1.heap.size) (.slice A1 n1 c1)) := St13.out.below hb14
  have Tt14 : Hid (TbIn w14 (.slice A1 n1 c1) ([5])) := Tt13.out.below hb14
  have Se14 : Hid (TbBox w14 (w3.heap.size) (.slice A3 n3 c3)) := Se13.out.below hb14
  have Te14 : Hid (TbIn w14 (.slice A3 n3 c3) ([])) := Te13.out.below hb14
  have Sf14 : Hid (TbBox w14 (w5.heap.size) (.slice A5 n5 c5)) := Sf13.out.below hb14
  have Tf14 : Hid (TbIn w14 (.slice A5 n5 c5) ([])) := Tf13.out.below hb14
  have Sg14 : Hid (TbBox w14 (w7.heap.size) (.slice A7 n7 c7)) := Sg13.out.below hb14
  have Tg14 : Hid (TbIn w14 (.slice A7 n7 c7) ([])) := Tg13.out.below hb14
  have Sh14 : Hid (TbBox w14 (w10.heap.size) (.slice A10 n10 c10)) := Sh13.out.below hb14
  have Th14 : Hid (TbIn w14 (.slice A10 n10 c10) ([])) := Th13.out.below hb14
  clear hb14
  have pt := St14.out.c0
  have pe := Se14.out.c0
  have pf := Sf14.out.c0
  have pg := Sg14.out.c0
  have ph := Sh14.out.c0
  go_wp2_with fail
  clear pt pe pf pg ph
  refine (n_h ▸ tcheck_any _ _ [3, 3] (n_in _ _ _ _ [3, 3] (Rowz.litV w14 [.int .i64 3, .int .i64 3] 3 (by simp [maxLen])) (by decide) (by decide))).mono ?_
  rintro e w15 ⟨rfl, hc15⟩
  have hb15 : Below w14.heap.size w14 w15 := (below_new _ _).trans (hc15.mono (by simp))
  have HB15 : Hid (Below w.heap.size w w15) := HB14.out.trans (hb15.mono HB14.out.size)
  have St15 : Hid (TbBox w15 (w1.heap.size) (.slice A1 n1 c1)) := St14.out.below hb15
  have Tt15 : Hid (TbIn w15 (.slice A1 n1 c1) ([5])) := Tt14.out.below hb15
  have Se15 : Hid (TbBox w15 (w3.heap.size) (.slice A3 n3 c3)) := Se14.out.below hb15
  have Te15 : Hid (TbIn w15 (.slice A3 n3 c3) ([])) := Te14.out.below hb15
  have Sf15 : Hid (TbBox w15 (w5.heap.size) (.slice A5 n5 c5)) := Sf14.out.below hb15
  have Tf15 : Hid (TbIn w15 (.slice A5 n5 c5) ([])) := Tf14.out.below hb15
  have Sg15 : Hid (TbBox w15 (w7.heap.size) (.slice A7 n7 c7)) := Sg14.out.below hb15
  have Tg15 : Hid (TbIn w15 (.slice A7 n7 c7) ([])) := Tg14.out.below hb15
  have Sh15 : Hid (TbBox w15 (w10.heap.size) (.slice A10 n10 c10)) := Sh14.out.below hb15
  have Th15 : Hid (TbIn w15 (.slice A10 n10 c10) ([])) := Th14.out.below hb15
  clear hb15
  have pt := St15.out.c0
  have pe := Se15.out.c0
  have pf := Sf15.out.c0
  have pg := Sg15.out.c0
  have ph := Sh15.out.c0
  go_wp2_with fail
  clear pt pe pf pg ph
  refine (n_i ▸ tcheck_any _ _ [0] (n_in _ _ _ _ [0] (Rowz.litV w15 [.int .i64 0] 3 (by simp [maxLen])) (by decide) (by decide))).mono ?_
  rintro e w16 ⟨rfl, hc16⟩
  have hb16 : Below w15.heap.size w15 w16 := (below_new _ _).trans (hc16.mono (by simp))
  have HB16 : Hid (Below w.heap.size w w16) := HB15.out.trans (hb16.mono HB15.out.size)
  have St16 : Hid (TbBox w16 (w1.heap.size) (.slice A1 n1 c1)) := St15.out.below hb16
  have Tt16 : Hid (TbIn w16 (.slice A1 n1 c1) ([5])) := Tt15.out.below hb16
  have Se16 : Hid (TbBox w16 (w3.heap.size) (.slice A3 n3 c3)) := Se15.out.below hb16
  have Te16 : Hid (TbIn w16 (.slice A3 n3 c3) ([])) := Te15.out.below hb16
  have Sf16 : Hid (TbBox w16 (w5.heap.size) (.slice A5 n5 c5)) := Sf15.out.below hb16
  have Tf16 : Hid (TbIn w16 (.slice A5 n5 c5) ([])) := Tf15.out.below hb16
  have Sg16 : Hid (TbBox w16 (w7.heap.size) (.slice A7 n7 c7)) := Sg15.out.below hb16
  have Tg16 : Hid (TbIn w16 (.slice A7 n7 c7) ([])) := Tg15.out.below hb16
  have Sh16 : Hid (TbBox w16 (w10.heap.size) (.slice A10 n10 c10)) := Sh15.out.below hb16
  have Th16 : Hid (TbIn w16 (.slice A10 n10 c10) ([])) := Th15.out.below hb16
  clear hb16
  have pt := St16.out.c0
  have pe := Se16.out.c0
  have pf := Sf16.out.c0
  have pg := Sg16.out.c0
  have ph := Sh16.out.c0
  go_wp2_with fail
  clear pt pe pf pg ph
  go_ret
  exact ⟨rfl, HB16.out⟩

set_option maxRecDepth 100000 in
theorem lifted (os : Os) (started : os.Started) (H : Type) (enc : TypeId × Value → H) :
    ReturnsInHanded {} Try.checked os 3 .any (Rows.tableNamesSpec.pre6 enc Try.prog Try.f3 Rows.tableNamesRow.domain false) (Rows.tableNamesSpec.post enc Try.prog Try.f3 false true false false) := by
  refine returnsInHanded_of_change (C := Try.checked) ownKnobs started (by kernel_rfl) Try.func3
    (ChangeSpec.witness6 (enc := enc) (C := Try.checked) false ⟨#[], #[], []⟩ 8 (by kernel_rfl) (by kernel_rfl) (by kernel_rfl) (by kernel_rfl)) ?_
  intro W base args ds gs before hval0 hW hcnd _
  have hval : ∀ (j : Nat) t v, Try.f3.params[j]? = some t → args[j]? = some v → Value.okWide Try.prog W .any base t v := hval0
  have hW' := hW
  obtain ⟨p, q, hA0, hV, rfl, hfz, hnd⟩ := hW
  have hA : DataW.TrodAll enc Try.prog W 0 (fun _ => true) true Try.f3.params.toList args.toList ds p := hA0
  rw [Try.params3] at hA hval
  obtain ⟨rfl, rfl, rfl⟩ := trodAll_none hA
  obtain ⟨rfl, rfl⟩ := trodVars_none hV
  clear hA0 hval0
  refine (walk W ).mono fun e W' ⟨he, bel⟩ => ?_
  subst he
  exact ⟨_, rfl, _, _, _, [], _, [], hW', trodAll_mk1 (shut_bool Try.underlying4 _), trodAll_mk0, rfl, bel.frame _, fun h => by cases h⟩

theorem over : Rows.tableNamesRow.holds Try.pinned (OpenSpec.ofChange Rows.tableNamesSpec) :=
  OpenClaim.holds_of_wide 3 Try.f3 rfl rfl rfl rfl rfl rfl rfl ⟨rfl, rfl, rfl, rfl, rfl⟩ rfl rfl rfl rfl rfl (by kernel_rfl) Try.func3 (by kernel_rfl)
    (of_decide_eq_true (by kernel_rfl)) (by unfold Func.isWrapper; first | (rw [if_pos (by decide +kernel)]; kernel_rfl) | (rw [if_neg (by decide +kernel)]; exact ⟨rfl, rfl⟩))
    (fun os started H enc _ => lifted os started H enc)

theorem proved : Rows.TableNamesSaid := over
#print axioms proved
end Go.Proofs.Ythakkaffjnkhgaa.tableNames

