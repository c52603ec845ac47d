/-
  The law's 'lives' of stage 8, and arguments opened: spaces that came in. Conditions: none.
-/
import Derived.Test.YtncjobeahpjnpaaSpJ
import Derived.Test.YtncjobeahpjnpaaOpB
namespace Go.Proofs.Ytncjobeahpjnpaa
open Go.ChangeShapes Go.WideShapes Go.ChangeAt Go.RowKit Go.Maps Go.Deep
set_option maxRecDepth 100000

theorem cellSpace : Try.prog.cellsOf 24 = 2 := by kernel_rfl
theorem cellIntS : Try.prog.cellsOf 3 = 1 := by kernel_rfl
/-- A space that came in. -/
theorem open_space {H : Type} {enc : TypeId × Value → H} {W : World} {base : Nat} {v : Value} {d : DataW H} {p : List MemPlace}
    (hv : Value.okWide Try.prog W .any base 24 v) (h : DataW.Trod enc Try.prog W 0 (fun _ => true) true 24 v d p) :
    ∃ (p : Int) (x : Value) (l : List Bool), v = .agg #[.int .i64 p, x] ∧ Boos W x l ∧ (-9223372036854775808 ≤ p ∧ p ≤ 9223372036854775807) := by
  obtain ⟨cs, rfl, _⟩ := okWide_struct Try.underlying24 hv
  obtain ⟨fuel, hf⟩ := h
  obtain ⟨y0, y1, n, _, hl, g0, g1⟩ := trod_struct2 Try.underlying24 hf
  rw [cellSpace] at hl
  simp only [cellBools, cellIntS] at g0 g1
  obtain ⟨p, e0, _, w1⟩ := DataW.trod_int Try.underlying3 g0
  obtain ⟨vk, keep, e1, hk⟩ := open_boolsF g1
  obtain ⟨l⟩ := cs
  simp [Value.cells] at hl e0 e1
  match l, hl with
  | [c0, c1], _ =>
    simp at e0 e1
    subst e0 e1
    exact ⟨p, c1, keep, rfl, hk, open_i64 w1⟩

theorem dec_same (p : Int) (l : List Bool) : decide (p = p ∧ l = l) = true := by simp
def L0 : List Bool := [true, true, false, false, false, false, false, false]
def L1 : List Bool := [true, true, true, false, false, false, false, false]
def L2 : List Bool := [true, true, true, true, false, false, false, false]
theorem lives8_new : spNew 8 = (8, L0, 0) := by decide +kernel
theorem lives8_a : spTake 8 L0 = (2, 8, L1, 0) := by decide +kernel
theorem lives8_b : spTake 8 L1 = (3, 8, L2, 0) := by decide +kernel
theorem lives8_x : spBytes 8 L2 = ([8, 0, 0, 0, 15], 0) := by decide +kernel
theorem lives8_i : spRead [8, 0, 0, 0, 14] = (0, [], 4) := by decide +kernel
set_option maxRecDepth 100000 in
set_option maxHeartbeats 4000000 in
theorem lives8_any (w : World) : Calls Try.prog 12 #[] w fun e w' => e = .returned (.bool true) ∧ Below w.heap.size w w' := by
  go_enter Try.func12, Try.ntmps12
  go_wp2_with fail
  refine (lives8_new ▸ spNew_any w 8).mono ?_
  rintro e w1 ⟨x1, rfl, hx1, hb1⟩
  obtain ⟨A1, n1, c1, rfl, N1, _, _⟩ := hx1.boos.form
  obtain ⟨w2, hw2⟩ : ∃ w2, w1.alloc (.cells #[.int .i64 8, .slice A1 n1 c1] 24) = w2 := ⟨_, rfl⟩
  have hs2 : SpBox w2 w1.heap.size 8 (.slice A1 n1 c1) := hw2 ▸ SBox.new w1 24 [.int .i64 8, .slice A1 n1 c1]
  have hl2 : Boos w2 (.slice A1 n1 c1) L0 := hw2 ▸ Rowz.alloc hx1.boos _
  have HB2 : Hid (Below w.heap.size w w2) := hw2 ▸ hb1.alloc hb1.size _
  have HW2 := Lib.hid hw2
  have HX2 := Lib.hid hl2
  have HS2 := Lib.hid hs2
  have HLE : Hid (w.heap.size ≤ w1.heap.size) := hb1.size
  clear hw2 hx1 hb1 hl2 hs2 N1
  go_wp2_with fail
  rw [HW2.out]
  refine (lives8_a ▸ spTake_any w2 8 _ L0 HX2.out (by decide)).mono ?_
  rintro e w3 ⟨y3, rfl, hy3, hb3⟩
  obtain ⟨A3, n3, c3, rfl, N3, _, _⟩ := hy3.boos.form
  have HS3 : Hid (SpBox w3 w1.heap.size 8 _) := HS2.out.below hb3
  have HB3 : Hid (Below w.heap.size w w3) := HB2.out.trans (hb3.mono HB2.out.size)
  have HY3 := Lib.hid hy3
  have HNB3 : Hid ((Value.slice A3 n3 c3).ownBlock ≠ some w1.heap.size) := fun hk => by have := (World.ownsRow.lt HY3.out _ hk).1; have := HS2.out.lt; omega
  clear hy3 hb3 N3
  go_wp2_with (refine wpList_storeS HS3.out spInfo rfl _ _ rfl rfl (ds := [.int .i64 8, .slice A3 n3 c3]) rfl rfl (one_sp _ _ _ _) ?_; intro w4 hs4 hg4 hz4; have HS4 := Lib.hid hs4; have HX4 : Hid (Boos w4 (.slice A3 n3 c3) L1) := Rowz.grown HY3.out.boos hg4 (fun k hk e => HNB3.out (by rw [hk, e])); have HB4 : Hid (Below w.heap.size w w4) := HB3.out.grown hg4 HB3.out.size (fun k e => by cases e; exact HLE.out); have p4 := SpBox.c0 hs4; have q4 := SpBox.c1 hs4; clear hs4 hg4 hz4)
  refine (lives8_b ▸ spTake_any w4 8 _ L1 HX4.out (by decide)).mono ?_
  rintro e w5 ⟨y5, rfl, hy5, hb5⟩
  obtain ⟨A5, n5, c5, rfl, N5, _, _⟩ := hy5.boos.form
  have HS5 : Hid (SpBox w5 w1.heap.size 8 _) := HS4.out.below hb5
  have HB5 : Hid (Below w.heap.size w w5) := HB4.out.trans (hb5.mono HB4.out.size)
  have HY5 := Lib.hid hy5
  have HNB5 : Hid ((Value.slice A5 n5 c5).ownBlock ≠ some w1.heap.size) := fun hk => by have := (World.ownsRow.lt HY5.out _ hk).1; have := HS4.out.lt; omega
  clear hy5 hb5 N5
  go_wp2_with (refine wpList_storeS HS5.out spInfo rfl _ _ rfl rfl (ds := [.int .i64 8, .slice A5 n5 c5]) rfl rfl (one_sp _ _ _ _) ?_; intro w6 hs6 hg6 hz6; have HS6 := Lib.hid hs6; have HX6 : Hid (Boos w6 (.slice A5 n5 c5) L2) := Rowz.grown HY5.out.boos hg6 (fun k hk e => HNB5.out (by rw [hk, e])); have HB6 : Hid (Below w.heap.size w w6) := HB5.out.grown hg6 HB5.out.size (fun k e => by cases e; exact HLE.out); have p6 := SpBox.c0 hs6; have q6 := SpBox.c1 hs6; clear hs6 hg6 hz6)
  refine (lives8_x ▸ spBytes_any w6 8 _ L2 HX6.out (by decide)).mono ?_
  rintro e w7 ⟨x7, rfl, hx7, hb7⟩
  have HB7 : Hid (Below w.heap.size w w7) := HB6.out.trans (hb7.mono HB6.out.size)
  have HX7 := Lib.hid hx7.byt
  clear hx7 hb7
  go_wp2_with fail
  refine (lives8_i ▸ spRead_any _ _ [8, 0, 0, 0, 14] (by exact Byt.lit w7 5 [8, 0, 0, 0, 14] (0, 0) (by simp [maxLen])) (by decide)).mono ?_
  rintro e w8 ⟨x8, rfl, hx8, hb8⟩
  obtain ⟨A8, n8, c8, rfl, _, _, _⟩ := hx8.boos.form
  have hb78 : Below w7.heap.size w7 w8 := (below_new w7 _).trans (hb8.mono (by simp))
  have HB8 : Hid (Below w.heap.size w w8) := HB7.out.trans (hb78.mono HB7.out.size)
  have htx := text_of ((HX7.out.below hb78).alloc (.cells #[.int .i64 0, .slice A8 n8 c8] 24))
  have HBA : Hid (Below w.heap.size w (w8.alloc (.cells #[.int .i64 0, .slice A8 n8 c8] 24))) := HB8.out.alloc HB8.out.size _
  clear hx8 hb8 hb78
  go_wp2_with fail
  go_ret
  exact ⟨rfl, HBA.out⟩
/-- Bytes stay as they were while a space's box alone is written. -/
theorem Byt.spbox {w w' : World} {v : Value} {l : List UInt8} {g : Nat} {p : Int} {A : Option Addr} {n c : Nat} (h : Byt w v l) (hs : SpBox w g p (.slice A n c)) (hg : w.grownBy w' (some g)) : Byt w' v l :=
  h.keep hg.size (fun b' hlt hex => hg.block b' hlt (by
    intro e
    cases e
    obtain ⟨off, u, hc⟩ := hex
    have hS : w.heap[g]? = some (.cells [.int .i64 p, .slice A n c].toArray 24 (0, 0)) := hs
    rw [cell_of_row _ _ _ _ _ _ hS] at hc
    match off, hc with
    | 0, hc => simp at hc
    | 1, hc => simp at hc
    | n + 2, hc => simp at hc))
/-- A place in memory holds this. -/
def CellIs (w : World) (b o : Nat) (v : Value) : Prop := b < w.heap.size ∧ w.cell? ⟨b, o, none⟩ = some v
theorem CellIs.below {w w' : World} {b o : Nat} {v : Value} (h : CellIs w b o v) (hb : Below w.heap.size w w') : CellIs w' b o v := ⟨Nat.lt_of_lt_of_le h.1 hb.size, (hb.cell (p := ⟨b, o, none⟩) h.1).trans h.2⟩
end Go.Proofs.Ytncjobeahpjnpaa
