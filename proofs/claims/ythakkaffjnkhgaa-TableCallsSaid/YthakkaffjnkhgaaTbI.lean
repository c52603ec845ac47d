/-
  A table that came in; the law's 'lives' of stage 10. Conditions: none.
-/
import Derived.Test.YthakkaffjnkhgaaTbH
import Derived.Test.YthakkaffjnkhgaaText
import Derived.Test.YthakkaffjnkhgaaOpB
namespace Go.Proofs.Ythakkaffjnkhgaa
open Go.ChangeShapes Go.WideShapes Go.ChangeAt Go.RowKit Go.Maps Go.Deep
set_option maxRecDepth 100000
set_option linter.unusedVariables false
set_option linter.unusedSimpArgs false

theorem cellTable : Try.prog.cellsOf 24 = 1 := by kernel_rfl
theorem cellInts1 : Try.prog.cellsOf 22 = 1 := by kernel_rfl
/-- A slice of ints that came in, its numbers of 64 bits. -/
theorem open_intsF {H : Type} {enc : TypeId × Value → H} {W : World} {fuel : Nat} {cs : List Value} {x : DataW H × List MemPlace}
    (h : DataW.trod enc Try.prog W 0 (fun _ => true) true fuel 22 cs = some x) : ∃ (v : Value) (zs : List Int), cs = [v] ∧ Rowz W v (intC zs) ∧ inZ zs := by
  rcases open_ints Try.underlying22 Try.underlying3 (by kernel_rfl) h with ⟨rfl, _⟩ | ⟨a, len, cap, zs, rfl, _, hl, hm, hz, _, hcell, hwz⟩
  · exact ⟨_, [], rfl, Rowz.nil W, fun j => by simp [atZ]⟩
  · have hz' : zs.length = cap := by simpa using hz
    have hlen : ((zs.take len).map (Value.int .i64)).length = len := by rw [List.length_map, List.length_take]; omega
    refine ⟨_, zs.take len, rfl, ⟨_, cap, by rw [intC, hlen], by rw [intC, hlen]; omega, hm, ?_⟩, fun j => ?_⟩
    · by_cases h0 : len = 0
      · exact .inl (by subst h0; simp [intC])
      · obtain ⟨b, off, spot⟩ := a
        have hc0 := hcell 0 (by omega)
        have hspot : spot = none := by simpa [Addr.add] using World.cell?_spot hc0
        subst hspot
        refine .inr ⟨b, off, rfl, ?_, fun j hj => ?_⟩
        · rcases Nat.lt_or_ge b W.heap.size with h' | h'
          · exact h'
          · rw [plainAdd] at hc0
            simp [World.cell?, Array.getElem?_eq_none h'] at hc0
        · rw [intC, hlen] at hj
          have hc := hcell j (by omega)
          rw [plainAdd] at hc
          rw [hc]
          have hjz : j < zs.length := by omega
          simp [intC, List.getElem?_eq_getElem hjz]
    · by_cases hj : j < (zs.take len).length
      · rw [atZ_lt hj, List.getElem_take]
        exact open_i64 (hwz _ (List.getElem_mem _))
      · rw [atZ_ge (by omega)]
        omega
/-- A table that came in. -/
theorem open_table {H : Type} {enc : TypeId × Value → H} {W : World} {base : Nat} {v : Value} {d : DataW H} {p : List MemPlace}
    (hv : Value.okWide Try.prog W .any base 24 v) (h : DataW.Trod enc Try.prog W 0 (fun _ => true) true 24 v d p) :
    ∃ (x : Value) (zs : List Int), v = .agg #[x] ∧ Rowz W x (intC zs) ∧ inZ zs := by
  obtain ⟨cs, rfl, _⟩ := okWide_struct Try.underlying24 hv
  obtain ⟨fuel, hf⟩ := h
  obtain ⟨y0, n, _, hl, g0⟩ := trod_struct1 Try.underlying24 hf
  rw [cellTable] at hl
  simp only [cellInts1] at g0
  obtain ⟨x, zs, e0, hx, hi⟩ := open_intsF g0
  obtain ⟨l⟩ := cs
  simp [Value.cells] at hl e0
  match l, hl with
  | [c0], _ =>
    simp at e0
    subst e0
    exact ⟨c0, zs, rfl, hx, hi⟩

theorem tbin_of {w : World} {v : Value} {zs : List Int} (h : Rowz w v (intC zs)) (hok : tbOk zs) : TbIn w v zs := ⟨h, hok.1, tbOk_in hok⟩
theorem tbin_nil (w : World) : TbIn w (.slice none 0 0) [] := tbin_of (Rowz.nil w) tbOk_nil
theorem z9_ok : tbOk [0, 0, 9] := by decide +kernel
theorem z9_a : setT [] 2 9 = ([0, 0, 9], 0) := by decide +kernel
theorem z9_b : freshT [0, 0, 9] = (0, 0) := by decide +kernel
theorem z9_c : bytesT [0, 0, 9] = ([3, 0, 0, 9], 0) := by decide +kernel
theorem z9_d : clearT [0, 0, 9] 2 = ([], 0) := by decide +kernel
theorem z9_e : bytesT [] = ([0], 0) := by decide +kernel
theorem z9_f : decide ([(0 : Int), 0, 9] = [0, 0, 9]) = true := by decide +kernel
/-- Bytes that are told. -/
def BytH (w : World) (v : Value) (l : List UInt8) : Prop := Byt w v l
theorem BytH.below {w w' : World} {v : Value} {l : List UInt8} (h : BytH w v l) (hb : Below w.heap.size w w') : BytH w' v l := Byt.below h hb
set_option maxRecDepth 100000 in
set_option maxHeartbeats 4000000 in
theorem lives10_any (w : World) : Calls Try.prog 12 #[] w fun e w' => e = .returned (.bool true) ∧ Below w.heap.size w w' := by
  have HB0 : Hid (Below w.heap.size w w) := Below.refl _ _
  go_enter Try.func12, Try.ntmps12
  go_wp2_with fail
  refine (z9_a ▸ tset_any w _ [] 2 9 (tbin_nil w)).mono ?_
  rintro e w1 ⟨x1, rfl, hx1, hb1⟩
  obtain ⟨A1, n1, c1, rfl, N1, _, _⟩ := hx1.1.form
  have HB1 : Hid (Below w.heap.size w w1) := HB0.out.trans (hb1.mono HB0.out.size)
  obtain ⟨w2, hw2⟩ : ∃ u, (w1.alloc (.cells #[.slice A1 n1 c1] 24)) = u := ⟨_, rfl⟩
  have HW2 := Lib.hid hw2
  have hb2 : Below w1.heap.size w1 w2 := hw2 ▸ below_new _ _
  have HB2 : Hid (Below w.heap.size w w2) := HB1.out.trans (hb2.mono HB1.out.size)
  have St2 : Hid (TbBox w2 w1.heap.size (.slice A1 n1 c1)) := hw2 ▸ SBox.new w1 24 [.slice A1 n1 c1]
  have Tt2 : Hid (TbIn w2 (.slice A1 n1 c1) ([0, 0, 9])) := tbin_of (hx1.1.below hb2) z9_ok
  clear hx1 hb1 hw2 hb2
  go_wp2_with fail
  rw [HW2.out]
  refine (z9_b ▸ tfresh_any w2 _ _ Tt2.out).mono ?_
  rintro e w3 ⟨rfl, hb3⟩
  have HB3 : Hid (Below w.heap.size w w3) := HB2.out.trans (hb3.mono HB2.out.size)
  have St3 : Hid (TbBox w3 (w1.heap.size) (.slice A1 n1 c1)) := St2.out.below hb3
  have Tt3 : Hid (TbIn w3 (.slice A1 n1 c1) ([0, 0, 9])) := Tt2.out.below hb3
  clear hb3
  have pt := St3.out.c0
  go_wp2_with fail
  clear pt
  refine (z9_c ▸ tbytes_any w3 _ _ Tt3.out).mono ?_
  rintro e w4 ⟨y4, rfl, hy4, hb4⟩
  obtain ⟨B4, m4, d4, rfl, _, _, _⟩ := hy4.byt.form
  have HB4 : Hid (Below w.heap.size w w4) := HB3.out.trans (hb4.mono HB3.out.size)
  have St4 : Hid (TbBox w4 (w1.heap.size) (.slice A1 n1 c1)) := St3.out.below hb4
  have Tt4 : Hid (TbIn w4 (.slice A1 n1 c1) ([0, 0, 9])) := Tt3.out.below hb4
  have Y4 : Hid (BytH w4 (.slice B4 m4 d4) [3, 0, 0, 9]) := hy4.byt
  clear hb4
  have pt := St4.out.c0
  go_wp2_with fail
  clear pt
  refine (z9_d ▸ tclear_any w4 _ _ 2 Tt4.out).mono ?_
  rintro e w5 ⟨x5, rfl, hx5, hb5⟩
  obtain ⟨A5, n5, c5, rfl, N5, _, _⟩ := hx5.1.form
  have HB5 : Hid (Below w.heap.size w w5) := HB4.out.trans (hb5.mono HB4.out.size)
  have Y5 : Hid (BytH w5 (.slice B4 m4 d4) [3, 0, 0, 9]) := Y4.out.below hb5
  have St5 : Hid (TbBox w5 (w1.heap.size) (.slice A1 n1 c1)) := St4.out.below hb5
  have Tt5 : Hid (TbIn w5 (.slice A1 n1 c1) ([0, 0, 9])) := Tt4.out.below hb5
  obtain ⟨w6, hw6⟩ : ∃ u, (w5.alloc (.cells #[.slice A5 n5 c5] 24)) = u := ⟨_, rfl⟩
  have HW6 := Lib.hid hw6
  have hb6 : Below w5.heap.size w5 w6 := hw6 ▸ below_new _ _
  have HB6 : Hid (Below w.heap.size w w6) := HB5.out.trans (hb6.mono HB5.out.size)
  have Y6 : Hid (BytH w6 (.slice B4 m4 d4) [3, 0, 0, 9]) := Y5.out.below hb6
  have St6 : Hid (TbBox w6 (w1.heap.size) (.slice A1 n1 c1)) := St5.out.below hb6
  have Tt6 : Hid (TbIn w6 (.slice A1 n1 c1) ([0, 0, 9])) := Tt5.out.below hb6
  have Su6 : Hid (TbBox w6 w5.heap.size (.slice A5 n5 c5)) := hw6 ▸ SBox.new w5 24 [.slice A5 n5 c5]
  have Tu6 : Hid (TbIn w6 (.slice A5 n5 c5) ([])) := tbin_of (hx5.1.below hb6) tbOk_nil
  clear hx5 hb5 hw6 hb6
  have pt : (w5.alloc (.cells #[.slice A5 n5 c5] 24)).cell? ⟨w1.heap.size, 0, none⟩ = some (.slice A1 n1 c1) := by rw [HW6.out]; exact St6.out.c0
  go_wp2_with fail
  rw [HW6.out]
  clear pt
  refine (z9_e ▸ tbytes_any w6 _ _ Tu6.out).mono ?_
  rintro e w7 ⟨y7, rfl, hy7, hb7⟩
  obtain ⟨B7, m7, d7, rfl, _, _, _⟩ := hy7.byt.form
  have HB7 : Hid (Below w.heap.size w w7) := HB6.out.trans (hb7.mono HB6.out.size)
  have Y7 : Hid (BytH w7 (.slice B4 m4 d4) [3, 0, 0, 9]) := Y6.out.below hb7
  have St7 : Hid (TbBox w7 (w1.heap.size) (.slice A1 n1 c1)) := St6.out.below hb7
  have Tt7 : Hid (TbIn w7 (.slice A1 n1 c1) ([0, 0, 9])) := Tt6.out.below hb7
  have Su7 : Hid (TbBox w7 (w5.heap.size) (.slice A5 n5 c5)) := Su6.out.below hb7
  have Tu7 : Hid (TbIn w7 (.slice A5 n5 c5) ([])) := Tu6.out.below hb7
  have Z7 : Hid (BytH w7 (.slice B7 m7 d7) [0]) := hy7.byt
  clear hb7
  have pt := St7.out.c0
  have pu := Su7.out.c0
  go_wp2_with fail
  clear pt pu
  refine (z9_f ▸ zints_any _ _ _ [0, 0, 9] [0, 0, 9] (Tt7.out.row.below (below_new _ _)) (Rowz.litV w7 [.int .i64 0, .int .i64 0, .int .i64 9] 3 (by simp [maxLen]))).mono ?_
  rintro e w8 ⟨rfl, hc8⟩
  have hb8 : Below w7.heap.size w7 w8 := (below_new _ _).trans (hc8.mono (by simp))
  have HB8 : Hid (Below w.heap.size w w8) := HB7.out.trans (hb8.mono HB7.out.size)
  have Y8 : Hid (BytH w8 (.slice B4 m4 d4) [3, 0, 0, 9]) := Y7.out.below hb8
  have Z8 : Hid (BytH w8 (.slice B7 m7 d7) [0]) := Z7.out.below hb8
  have St8 : Hid (TbBox w8 (w1.heap.size) (.slice A1 n1 c1)) := St7.out.below hb8
  have Tt8 : Hid (TbIn w8 (.slice A1 n1 c1) ([0, 0, 9])) := Tt7.out.below hb8
  have Su8 : Hid (TbBox w8 (w5.heap.size) (.slice A5 n5 c5)) := Su7.out.below hb8
  have Tu8 : Hid (TbIn w8 (.slice A5 n5 c5) ([])) := Tu7.out.below hb8
  clear hb8
  have tx := text_of (show Byt w8 _ _ from Y8.out)
  have ty := text_of (show Byt w8 _ _ from Z8.out)
  obtain rfl : n5 = 0 := Tu8.out.row.lenZ
  have pt := St8.out.c0
  have pu := Su8.out.c0
  go_wp2_with fail
  go_ret
  exact ⟨rfl, HB8.out⟩

end Go.Proofs.Ythakkaffjnkhgaa
