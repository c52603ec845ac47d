/-
  The statement SpaceCalls: what each call of package space answers is what the document's own answers, for any two spaces, any page and any bytes. Conditions: none.
-/
import Derived.Test.YtncjobeahpjnpaaSpT
import Derived.Test.YtncjobeahpjnpaaSpN
import Derived.Test.YtncjobeahpjnpaaSpO
import Derived.Test.YtncjobeahpjnpaaSpP
import Derived.Test.YtncjobeahpjnpaaSpQ
namespace Go.Proofs.Ytncjobeahpjnpaa.spaceCalls
open Go.ChangeShapes Go.WideShapes Go.ChangeAt Go.RowKit Go.Maps
set_option maxRecDepth 100000
set_option linter.unusedVariables false
set_option linter.unusedSimpArgs false

theorem dec_list (l : List Nat) : decide (l = l) = true := by simp
set_option maxRecDepth 100000 in
set_option maxHeartbeats 16000000 in
theorem walk (w : World) (p : Int) (v : Value) (l : List Bool) (q : Int) (x : Value) (l2 : List Bool) (pg : Int) (vb : Value) (b : List UInt8) (hv : Boos w v l) (hp : -9223372036854775808 ≤ p ∧ p ≤ 9223372036854775807) (hx : Boos w x l2) (hq : -9223372036854775808 ≤ q ∧ q ≤ 9223372036854775807) (hpg : -9223372036854775808 ≤ pg ∧ pg ≤ 9223372036854775807) (hy : Byt w vb b) :
    Calls Try.prog 4 #[.agg #[.int .i64 p, v], .agg #[.int .i64 q, x], .int .i64 pg, vb] w fun e w' => e = .returned (.bool true) ∧ Below w.heap.size w w' := by
  obtain ⟨w0, hw0⟩ : ∃ w0, (w.alloc (.cells #[.int .i64 p, v] 24)).alloc (.cells #[.int .i64 q, x] 24) = w0 := ⟨_, rfl⟩
  have hb0 : Below w.heap.size w w0 := hw0 ▸ (below_new w _).trans ((below_new _ _).mono (by simp))
  have hS : SpBox w0 w.heap.size p v := hw0 ▸ (SBox.new w 24 [.int .i64 p, v]).alloc _
  have hT : SpBox w0 (w.heap.size + 1) q x := by
    have := SBox.new (w.alloc (.cells #[.int .i64 p, v] 24)) 24 [.int .i64 q, x]
    rw [World.size_alloc] at this
    exact hw0 ▸ this
  obtain ⟨A, n, c, rfl, N, hnc, hcm⟩ := hv.form
  obtain ⟨At, nt, ct, rfl, N2, hnc2, hcm2⟩ := hx.form
  obtain ⟨Ab, nb, cb, rfl, NB, hncb, hcmb⟩ := hy.form
  have LS0 : Hid (Boos w0 (.slice A n c) l) := hv.below hb0
  have LT0 : Hid (Boos w0 (.slice At nt ct) l2) := hx.below hb0
  have VB0 : Hid (Byt w0 (.slice Ab nb cb) b) := hy.below hb0
  have S0 := Lib.hid hS
  have T0 := Lib.hid hT
  have HB0 := Lib.hid hb0
  have HW0 := Lib.hid hw0
  have HVW := Lib.hid hv
  have HXW := Lib.hid hx
  have HYW := Lib.hid hy
  clear hv hx hy hb0 hS hT hw0 hp hq hpg
  by_cases hn : (300 : Int) < (n : Int)
  · 
    go_enter Try.func4, Try.ntmps4
    go_wp2_with fail
    rw [HW0.out]
    refine (lives8_any w0).mono ?_
    rintro e w1 ⟨rfl, hb1⟩
    have HB1 : Hid (Below w.heap.size w w1) := HB0.out.trans (hb1.mono HB0.out.size)
    have LS1 : Hid (Boos w1 (.slice A n c) l) := LS0.out.below hb1
    have LT1 : Hid (Boos w1 (.slice At nt ct) l2) := LT0.out.below hb1
    have VB1 : Hid (Byt w1 (.slice Ab nb cb) b) := VB0.out.below hb1
    have S1 : Hid (SpBox w1 (w.heap.size) (p) (.slice A n c)) := S0.out.below hb1
    have T1 : Hid (SpBox w1 (w.heap.size + 1) (q) (.slice At nt ct)) := T0.out.below hb1
    clear hb1
    have pS := S1.out.c0
    have rS := S1.out.c1
    have pT := T1.out.c0
    have rT := T1.out.c1
    go_wp2_with fail
    clear pS rS pT rT
    go_ret
    exact ⟨rfl, HB1.out⟩
  · by_cases hm : (300 : Int) < (nt : Int)
    · 
      go_enter Try.func4, Try.ntmps4
      go_wp2_with fail
      rw [HW0.out]
      refine (lives8_any w0).mono ?_
      rintro e w1 ⟨rfl, hb1⟩
      have HB1 : Hid (Below w.heap.size w w1) := HB0.out.trans (hb1.mono HB0.out.size)
      have LS1 : Hid (Boos w1 (.slice A n c) l) := LS0.out.below hb1
      have LT1 : Hid (Boos w1 (.slice At nt ct) l2) := LT0.out.below hb1
      have VB1 : Hid (Byt w1 (.slice Ab nb cb) b) := VB0.out.below hb1
      have S1 : Hid (SpBox w1 (w.heap.size) (p) (.slice A n c)) := S0.out.below hb1
      have T1 : Hid (SpBox w1 (w.heap.size + 1) (q) (.slice At nt ct)) := T0.out.below hb1
      clear hb1
      have pS := S1.out.c0
      have rS := S1.out.c1
      have pT := T1.out.c0
      have rT := T1.out.c1
      go_wp2_with fail
      clear pS rS pT rT
      go_ret
      exact ⟨rfl, HB1.out⟩
    · by_cases hb : (1000 : Int) < (nb : Int)
      · 
        go_enter Try.func4, Try.ntmps4
        go_wp2_with fail
        rw [HW0.out]
        refine (lives8_any w0).mono ?_
        rintro e w1 ⟨rfl, hb1⟩
        have HB1 : Hid (Below w.heap.size w w1) := HB0.out.trans (hb1.mono HB0.out.size)
        have LS1 : Hid (Boos w1 (.slice A n c) l) := LS0.out.below hb1
        have LT1 : Hid (Boos w1 (.slice At nt ct) l2) := LT0.out.below hb1
        have VB1 : Hid (Byt w1 (.slice Ab nb cb) b) := VB0.out.below hb1
        have S1 : Hid (SpBox w1 (w.heap.size) (p) (.slice A n c)) := S0.out.below hb1
        have T1 : Hid (SpBox w1 (w.heap.size + 1) (q) (.slice At nt ct)) := T0.out.below hb1
        clear hb1
        have pS := S1.out.c0
        have rS := S1.out.c1
        have pT := T1.out.c0
        have rT := T1.out.c1
        go_wp2_with fail
        clear pS rS pT rT
        go_ret
        exact ⟨rfl, HB1.out⟩
      · have HN : Hid (l.length ≤ 300 ∧ l2.length ≤ 300 ∧ b.length ≤ 1000) := ⟨by have : n = l.length := N.out; omega, by have : nt = l2.length := N2.out; omega, by have : nb = b.length := NB.out; omega⟩
        have HLL : Hid (l.length ≤ 70368744177664) := by have := HN.out; show _ ≤ _; omega
        have HLM : Hid (l2.length ≤ 70368744177664) := by have := HN.out; show _ ≤ _; omega
        obtain ⟨⟨tn, tp, tl, te⟩, h1⟩ : ∃ r, spTake p l = r := ⟨_, rfl⟩
        obtain ⟨⟨up, ul, ue⟩, h2⟩ : ∃ r, spUse p l pg = r := ⟨_, rfl⟩
        obtain ⟨⟨gp, gl, ge⟩, h3⟩ : ∃ r, spGive p l pg = r := ⟨_, rfl⟩
        obtain ⟨⟨op, ol, oe⟩, h4⟩ : ∃ r, spBoth p l q l2 = r := ⟨_, rfl⟩
        obtain ⟨⟨ys, ye⟩, h5⟩ : ∃ r, spBytes p l = r := ⟨_, rfl⟩
        obtain ⟨⟨rp, rl, re⟩, h6⟩ : ∃ r, spRead b = r := ⟨_, rfl⟩
        obtain ⟨fs, h7⟩ : ∃ r, spFreeC p l = r := ⟨_, rfl⟩
        obtain ⟨fn, h8⟩ : ∃ r, fs.length = r := ⟨_, rfl⟩
        obtain ⟨ck, h9⟩ : ∃ r : Int, (if spOk p l then (0 : Int) else 2) = r := ⟨_, rfl⟩
        obtain ⟨sm, h10⟩ : ∃ r, decide (p = q ∧ l = l2) = r := ⟨_, rfl⟩
        have HTK := Lib.hid h1
        have HUS := Lib.hid h2
        have HGV := Lib.hid h3
        have HBO := Lib.hid h4
        have HBS := Lib.hid h5
        have HRD := Lib.hid h6
        have HFC := Lib.hid h7
        have HFN := Lib.hid h8
        have HCN : Hid ((spFreeC p l).length = fn) := by rw [Hid, h7]; exact h8
        have HCK := Lib.hid h9
        have HSM := Lib.hid h10
        clear h1 h2 h3 h4 h5 h6 h7 h8 h9 h10
        go_enter Try.func4, Try.ntmps4
        go_wp2_with fail
        rw [HW0.out]
        refine (lives8_any w0).mono ?_
        rintro e w1 ⟨rfl, hb1⟩
        have HB1 : Hid (Below w.heap.size w w1) := HB0.out.trans (hb1.mono HB0.out.size)
        have LS1 : Hid (Boos w1 (.slice A n c) l) := LS0.out.below hb1
        have LT1 : Hid (Boos w1 (.slice At nt ct) l2) := LT0.out.below hb1
        have VB1 : Hid (Byt w1 (.slice Ab nb cb) b) := VB0.out.below hb1
        have S1 : Hid (SpBox w1 (w.heap.size) (p) (.slice A n c)) := S0.out.below hb1
        have T1 : Hid (SpBox w1 (w.heap.size + 1) (q) (.slice At nt ct)) := T0.out.below hb1
        clear hb1
        have pS := S1.out.c0
        have rS := S1.out.c1
        have pT := T1.out.c0
        have rT := T1.out.c1
        go_wp2_with fail
        clear pS rS pT rT
        refine (HTK.out ▸ spTake_any w1 p _ l LS1.out HLL.out).mono ?_
        rintro e w2 ⟨x2, rfl, hx2, hb2⟩
        obtain ⟨A2, n2, c2, rfl, _, _, _⟩ := hx2.boos.form
        have HB2 : Hid (Below w.heap.size w w2) := HB1.out.trans (hb2.mono HB1.out.size)
        have LS2 : Hid (Boos w2 (.slice A n c) l) := LS1.out.below hb2
        have LT2 : Hid (Boos w2 (.slice At nt ct) l2) := LT1.out.below hb2
        have VB2 : Hid (Byt w2 (.slice Ab nb cb) b) := VB1.out.below hb2
        have S2 : Hid (SpBox w2 (w.heap.size) (p) (.slice A n c)) := S1.out.below hb2
        have T2 : Hid (SpBox w2 (w.heap.size + 1) (q) (.slice At nt ct)) := T1.out.below hb2
        obtain ⟨w3, hw3⟩ : ∃ u, (w2.alloc (.cells #[.int .i64 (tp), .slice A2 n2 c2] 24)) = u := ⟨_, rfl⟩
        have HW3 := Lib.hid hw3
        have hb3 : Below w2.heap.size w2 w3 := hw3 ▸ below_new _ _
        have HB3 : Hid (Below w.heap.size w w3) := HB2.out.trans (hb3.mono HB2.out.size)
        have LS3 : Hid (Boos w3 (.slice A n c) l) := LS2.out.below hb3
        have LT3 : Hid (Boos w3 (.slice At nt ct) l2) := LT2.out.below hb3
        have VB3 : Hid (Byt w3 (.slice Ab nb cb) b) := VB2.out.below hb3
        have S3 : Hid (SpBox w3 (w.heap.size) (p) (.slice A n c)) := S2.out.below hb3
        have T3 : Hid (SpBox w3 (w.heap.size + 1) (q) (.slice At nt ct)) := T2.out.below hb3
        have X3 : Hid (SpBox w3 w2.heap.size (tp) (.slice A2 n2 c2)) := hw3 ▸ SBox.new w2 24 [.int .i64 (tp), .slice A2 n2 c2]
        have LX3 : Hid (Boos w3 (.slice A2 n2 c2) (tl)) := hw3 ▸ Rowz.alloc hx2.boos _
        clear hx2 hb2 hw3 hb3
        have pS : (w2.alloc (.cells #[.int .i64 (tp), .slice A2 n2 c2] 24)).cell? ⟨w.heap.size, 0, none⟩ = some (.int .i64 (p)) := by rw [HW3.out]; exact S3.out.c0
        have rS : (w2.alloc (.cells #[.int .i64 (tp), .slice A2 n2 c2] 24)).cell? ⟨w.heap.size, 1, none⟩ = some (.slice A n c) := by rw [HW3.out]; exact S3.out.c1
        have pT : (w2.alloc (.cells #[.int .i64 (tp), .slice A2 n2 c2] 24)).cell? ⟨w.heap.size + 1, 0, none⟩ = some (.int .i64 (q)) := by rw [HW3.out]; exact T3.out.c0
        have rT : (w2.alloc (.cells #[.int .i64 (tp), .slice A2 n2 c2] 24)).cell? ⟨w.heap.size + 1, 1, none⟩ = some (.slice At nt ct) := by rw [HW3.out]; exact T3.out.c1
        go_wp2_with fail
        rw [HW3.out]
        clear pS rS pT rT
        have HGX : Hid (w.heap.size + 1 < w2.heap.size) := T2.out.lt
        obtain ⟨bX, hbX⟩ : ∃ bX, bX = w2.heap.size := ⟨_, rfl⟩
        rw [← hbX] at X3 HGX ⊢
        clear hbX
        refine (HTK.out ▸ r8Take_any w3 p _ l LS3.out HLL.out).mono ?_
        rintro e w4 ⟨x4, rfl, hx4, hb4⟩
        obtain ⟨A4, n4, c4, rfl, _, _, _⟩ := hx4.boos.form
        have HB4 : Hid (Below w.heap.size w w4) := HB3.out.trans (hb4.mono HB3.out.size)
        have LS4 : Hid (Boos w4 (.slice A n c) l) := LS3.out.below hb4
        have LT4 : Hid (Boos w4 (.slice At nt ct) l2) := LT3.out.below hb4
        have VB4 : Hid (Byt w4 (.slice Ab nb cb) b) := VB3.out.below hb4
        have LX4 : Hid (Boos w4 (.slice A2 n2 c2) (tl)) := LX3.out.below hb4
        have S4 : Hid (SpBox w4 (w.heap.size) (p) (.slice A n c)) := S3.out.below hb4
        have T4 : Hid (SpBox w4 (w.heap.size + 1) (q) (.slice At nt ct)) := T3.out.below hb4
        have X4 : Hid (SpBox w4 (bX) (tp) (.slice A2 n2 c2)) := X3.out.below hb4
        obtain ⟨w5, hw5⟩ : ∃ u, (w4.alloc (.cells #[.int .i64 (tp), .slice A4 n4 c4] 24)) = u := ⟨_, rfl⟩
        have HW5 := Lib.hid hw5
        have hb5 : Below w4.heap.size w4 w5 := hw5 ▸ below_new _ _
        have HB5 : Hid (Below w.heap.size w w5) := HB4.out.trans (hb5.mono HB4.out.size)
        have LS5 : Hid (Boos w5 (.slice A n c) l) := LS4.out.below hb5
        have LT5 : Hid (Boos w5 (.slice At nt ct) l2) := LT4.out.below hb5
        have VB5 : Hid (Byt w5 (.slice Ab nb cb) b) := VB4.out.below hb5
        have LX5 : Hid (Boos w5 (.slice A2 n2 c2) (tl)) := LX4.out.below hb5
        have S5 : Hid (SpBox w5 (w.heap.size) (p) (.slice A n c)) := S4.out.below hb5
        have T5 : Hid (SpBox w5 (w.heap.size + 1) (q) (.slice At nt ct)) := T4.out.below hb5
        have X5 : Hid (SpBox w5 (bX) (tp) (.slice A2 n2 c2)) := X4.out.below hb5
        have Y5 : Hid (SpBox w5 w4.heap.size (tp) (.slice A4 n4 c4)) := hw5 ▸ SBox.new w4 24 [.int .i64 (tp), .slice A4 n4 c4]
        have LY5 : Hid (Boos w5 (.slice A4 n4 c4) (tl)) := hw5 ▸ Rowz.alloc hx4.boos _
        clear hx4 hb4 hw5 hb5
        have pS : (w4.alloc (.cells #[.int .i64 (tp), .slice A4 n4 c4] 24)).cell? ⟨w.heap.size, 0, none⟩ = some (.int .i64 (p)) := by rw [HW5.out]; exact S5.out.c0
        have rS : (w4.alloc (.cells #[.int .i64 (tp), .slice A4 n4 c4] 24)).cell? ⟨w.heap.size, 1, none⟩ = some (.slice A n c) := by rw [HW5.out]; exact S5.out.c1
        have pT : (w4.alloc (.cells #[.int .i64 (tp), .slice A4 n4 c4] 24)).cell? ⟨w.heap.size + 1, 0, none⟩ = some (.int .i64 (q)) := by rw [HW5.out]; exact T5.out.c0
        have rT : (w4.alloc (.cells #[.int .i64 (tp), .slice A4 n4 c4] 24)).cell? ⟨w.heap.size + 1, 1, none⟩ = some (.slice At nt ct) := by rw [HW5.out]; exact T5.out.c1
        have pX : (w4.alloc (.cells #[.int .i64 (tp), .slice A4 n4 c4] 24)).cell? ⟨bX, 0, none⟩ = some (.int .i64 (tp)) := by rw [HW5.out]; exact X5.out.c0
        have rX : (w4.alloc (.cells #[.int .i64 (tp), .slice A4 n4 c4] 24)).cell? ⟨bX, 1, none⟩ = some (.slice A2 n2 c2) := by rw [HW5.out]; exact X5.out.c1
        go_wp2_with fail
        rw [HW5.out]
        clear pS rS pT rT pX rX
        have HGY : Hid (bX < w4.heap.size) := X4.out.lt
        obtain ⟨bY, hbY⟩ : ∃ bY, bY = w4.heap.size := ⟨_, rfl⟩
        rw [← hbY] at Y5 HGY ⊢
        clear hbY
        refine (dec_same tp tl ▸ kitspace_any w5 tp tp _ _ tl tl LX5.out LY5.out).mono ?_
        rintro e w6 ⟨rfl, hb6⟩
        have HB6 : Hid (Below w.heap.size w w6) := HB5.out.trans (hb6.mono HB5.out.size)
        have LS6 : Hid (Boos w6 (.slice A n c) l) := LS5.out.below hb6
        have LT6 : Hid (Boos w6 (.slice At nt ct) l2) := LT5.out.below hb6
        have VB6 : Hid (Byt w6 (.slice Ab nb cb) b) := VB5.out.below hb6
        have LX6 : Hid (Boos w6 (.slice A2 n2 c2) (tl)) := LX5.out.below hb6
        have LY6 : Hid (Boos w6 (.slice A4 n4 c4) (tl)) := LY5.out.below hb6
        have S6 : Hid (SpBox w6 (w.heap.size) (p) (.slice A n c)) := S5.out.below hb6
        have T6 : Hid (SpBox w6 (w.heap.size + 1) (q) (.slice At nt ct)) := T5.out.below hb6
        have X6 : Hid (SpBox w6 (bX) (tp) (.slice A2 n2 c2)) := X5.out.below hb6
        have Y6 : Hid (SpBox w6 (bY) (tp) (.slice A4 n4 c4)) := Y5.out.below hb6
        clear hb6
        have pS := S6.out.c0
        have rS := S6.out.c1
        have pT := T6.out.c0
        have rT := T6.out.c1
        have pX := X6.out.c0
        have rX := X6.out.c1
        have pY := Y6.out.c0
        have rY := Y6.out.c1
        go_wp2_with fail
        clear pS rS pT rT pX rX pY rY
        refine (HUS.out ▸ spUse_any w6 p _ l pg LS6.out HLL.out).mono ?_
        rintro e w7 ⟨x7, rfl, hx7, hb7⟩
        obtain ⟨A7, n7, c7, rfl, _, _, _⟩ := hx7.boos.form
        have HB7 : Hid (Below w.heap.size w w7) := HB6.out.trans (hb7.mono HB6.out.size)
        have LS7 : Hid (Boos w7 (.slice A n c) l) := LS6.out.below hb7
        have LT7 : Hid (Boos w7 (.slice At nt ct) l2) := LT6.out.below hb7
        have VB7 : Hid (Byt w7 (.slice Ab nb cb) b) := VB6.out.below hb7
        have LX7 : Hid (Boos w7 (.slice A2 n2 c2) (tl)) := LX6.out.below hb7
        have LY7 : Hid (Boos w7 (.slice A4 n4 c4) (tl)) := LY6.out.below hb7
        have S7 : Hid (SpBox w7 (w.heap.size) (p) (.slice A n c)) := S6.out.below hb7
        have T7 : Hid (SpBox w7 (w.heap.size + 1) (q) (.slice At nt ct)) := T6.out.below hb7
        have X7 : Hid (SpBox w7 (bX) (tp) (.slice A2 n2 c2)) := X6.out.below hb7
        have Y7 : Hid (SpBox w7 (bY) (tp) (.slice A4 n4 c4)) := Y6.out.below hb7
        have HNX8 : Hid (∀ j, (Value.slice A7 n7 c7).ownBlock = some j → j ≠ bY) := fun j hj e => by have := (World.ownsRow.lt hx7 _ hj).1; have := Y6.out.lt; omega
        have pS := S7.out.c0
        have rS := S7.out.c1
        have pT := T7.out.c0
        have rT := T7.out.c1
        have pX := X7.out.c0
        have rX := X7.out.c1
        have pY := Y7.out.c0
        have rY := Y7.out.c1
        go_wp2_with (
          (refine wpList_storeS X7.out spInfo rfl _ _ rfl rfl (ds := [.int .i64 (up), (.slice A7 n7 c7)]) rfl rfl (one_sp _ _ _ _) ?_
           intro w8 hs hg hz
           have HB8 : Hid (Below w.heap.size w w8) := HB7.out.grown hg HB7.out.size (fun j e => by cases e; have := HGX.out; have := HGY.out; omega)
           have X8 : Hid (SpBox w8 bX (up) (.slice A7 n7 c7)) := hs
           have LX8 : Hid (Boos w8 (.slice A7 n7 c7) (ul)) := Rowz.grown hx7.boos hg (fun j hj e => by have := (World.ownsRow.lt hx7 _ hj).1; have := X6.out.lt; omega)
           have LS8 : Hid (Boos w8 (.slice A n c) l) := HVW.out.below HB8.out
           have LT8 : Hid (Boos w8 (.slice At nt ct) l2) := HXW.out.below HB8.out
           have VB8 : Hid (Byt w8 (.slice Ab nb cb) b) := HYW.out.below HB8.out
           have S8 : Hid (SpBox w8 (w.heap.size) (p) (.slice A n c)) := S7.out.grown hg (by have := HGX.out; have := HGY.out; omega)
           have T8 : Hid (SpBox w8 (w.heap.size + 1) (q) (.slice At nt ct)) := T7.out.grown hg (by have := HGX.out; have := HGY.out; omega)
           have Y8 : Hid (SpBox w8 (bY) (tp) (.slice A4 n4 c4)) := Y7.out.grown hg (by have := HGX.out; have := HGY.out; omega)
           clear pS rS pT rT pX rX pY rY
           clear hs hg hz
           have pS := S8.out.c0
           have rS := S8.out.c1
           have pT := T8.out.c0
           have rT := T8.out.c1
           have pX := X8.out.c0
           have rX := X8.out.c1
           have pY := Y8.out.c0
           have rY := Y8.out.c1))
        clear hx7 hb7
        clear pS rS pT rT pX rX pY rY
        refine (HUS.out ▸ r8Use_any w8 p _ l pg LS8.out HLL.out).mono ?_
        rintro e w9 ⟨x9, rfl, hx9, hb9⟩
        obtain ⟨A9, n9, c9, rfl, _, _, _⟩ := hx9.boos.form
        have HB9 : Hid (Below w.heap.size w w9) := HB8.out.trans (hb9.mono HB8.out.size)
        have LS9 : Hid (Boos w9 (.slice A n c) l) := LS8.out.below hb9
        have LT9 : Hid (Boos w9 (.slice At nt ct) l2) := LT8.out.below hb9
        have VB9 : Hid (Byt w9 (.slice Ab nb cb) b) := VB8.out.below hb9
        have LX9 : Hid (Boos w9 (.slice A7 n7 c7) (ul)) := LX8.out.below hb9
        have S9 : Hid (SpBox w9 (w.heap.size) (p) (.slice A n c)) := S8.out.below hb9
        have T9 : Hid (SpBox w9 (w.heap.size + 1) (q) (.slice At nt ct)) := T8.out.below hb9
        have X9 : Hid (SpBox w9 (bX) (up) (.slice A7 n7 c7)) := X8.out.below hb9
        have Y9 : Hid (SpBox w9 (bY) (tp) (.slice A4 n4 c4)) := Y8.out.below hb9
        have pS := S9.out.c0
        have rS := S9.out.c1
        have pT := T9.out.c0
        have rT := T9.out.c1
        have pX := X9.out.c0
        have rX := X9.out.c1
        have pY := Y9.out.c0
        have rY := Y9.out.c1
        go_wp2_with (
          (refine wpList_storeS Y9.out spInfo rfl _ _ rfl rfl (ds := [.int .i64 (up), (.slice A9 n9 c9)]) rfl rfl (one_sp _ _ _ _) ?_
           intro w10 hs hg hz
           have HB10 : Hid (Below w.heap.size w w10) := HB9.out.grown hg HB9.out.size (fun j e => by cases e; have := HGX.out; have := HGY.out; omega)
           have Y10 : Hid (SpBox w10 bY (up) (.slice A9 n9 c9)) := hs
           have LY10 : Hid (Boos w10 (.slice A9 n9 c9) (ul)) := Rowz.grown hx9.boos hg (fun j hj e => by have := (World.ownsRow.lt hx9 _ hj).1; have := Y8.out.lt; omega)
           have LS10 : Hid (Boos w10 (.slice A n c) l) := HVW.out.below HB10.out
           have LT10 : Hid (Boos w10 (.slice At nt ct) l2) := HXW.out.below HB10.out
           have VB10 : Hid (Byt w10 (.slice Ab nb cb) b) := HYW.out.below HB10.out
           have S10 : Hid (SpBox w10 (w.heap.size) (p) (.slice A n c)) := S9.out.grown hg (by have := HGX.out; have := HGY.out; omega)
           have T10 : Hid (SpBox w10 (w.heap.size + 1) (q) (.slice At nt ct)) := T9.out.grown hg (by have := HGX.out; have := HGY.out; omega)
           have X10 : Hid (SpBox w10 (bX) (up) (.slice A7 n7 c7)) := X9.out.grown hg (by have := HGX.out; have := HGY.out; omega)
           have LX10 : Hid (Boos w10 (.slice A7 n7 c7) (ul)) := Rowz.grown LX9.out hg HNX8.out
           clear pS rS pT rT pX rX pY rY
           clear hs hg hz
           have pS := S10.out.c0
           have rS := S10.out.c1
           have pT := T10.out.c0
           have rT := T10.out.c1
           have pX := X10.out.c0
           have rX := X10.out.c1
           have pY := Y10.out.c0
           have rY := Y10.out.c1))
        clear hx9 hb9
        clear pS rS pT rT pX rX pY rY
        refine (HGV.out ▸ spGive_any w10 p _ l pg LS10.out HLL.out).mono ?_
        rintro e w11 ⟨x11, rfl, hx11, hb11⟩
        obtain ⟨A11, n11, c11, rfl, _, _, _⟩ := hx11.boos.form
        have HB11 : Hid (Below w.heap.size w w11) := HB10.out.trans (hb11.mono HB10.out.size)
        have LS11 : Hid (Boos w11 (.slice A n c) l) := LS10.out.below hb11
        have LT11 : Hid (Boos w11 (.slice At nt ct) l2) := LT10.out.below hb11
        have VB11 : Hid (Byt w11 (.slice Ab nb cb) b) := VB10.out.below hb11
        have LX11 : Hid (Boos w11 (.slice A7 n7 c7) (ul)) := LX10.out.below hb11
        have LY11 : Hid (Boos w11 (.slice A9 n9 c9) (ul)) := LY10.out.below hb11
        have S11 : Hid (SpBox w11 (w.heap.size) (p) (.slice A n c)) := S10.out.below hb11
        have T11 : Hid (SpBox w11 (w.heap.size + 1) (q) (.slice At nt ct)) := T10.out.below hb11
        have X11 : Hid (SpBox w11 (bX) (up) (.slice A7 n7 c7)) := X10.out.below hb11
        have Y11 : Hid (SpBox w11 (bY) (up) (.slice A9 n9 c9)) := Y10.out.below hb11
        obtain ⟨w12, hw12⟩ : ∃ u, (w11.alloc (.cells #[.int .i64 (gp), .slice A11 n11 c11] 24)) = u := ⟨_, rfl⟩
        have HW12 := Lib.hid hw12
        have hb12 : Below w11.heap.size w11 w12 := hw12 ▸ below_new _ _
        have HB12 : Hid (Below w.heap.size w w12) := HB11.out.trans (hb12.mono HB11.out.size)
        have LS12 : Hid (Boos w12 (.slice A n c) l) := LS11.out.below hb12
        have LT12 : Hid (Boos w12 (.slice At nt ct) l2) := LT11.out.below hb12
        have VB12 : Hid (Byt w12 (.slice Ab nb cb) b) := VB11.out.below hb12
        have LX12 : Hid (Boos w12 (.slice A7 n7 c7) (ul)) := LX11.out.below hb12
        have LY12 : Hid (Boos w12 (.slice A9 n9 c9) (ul)) := LY11.out.below hb12
        have S12 : Hid (SpBox w12 (w.heap.size) (p) (.slice A n c)) := S11.out.below hb12
        have T12 : Hid (SpBox w12 (w.heap.size + 1) (q) (.slice At nt ct)) := T11.out.below hb12
        have X12 : Hid (SpBox w12 (bX) (up) (.slice A7 n7 c7)) := X11.out.below hb12
        have Y12 : Hid (SpBox w12 (bY) (up) (.slice A9 n9 c9)) := Y11.out.below hb12
        have U12 : Hid (SpBox w12 w11.heap.size (gp) (.slice A11 n11 c11)) := hw12 ▸ SBox.new w11 24 [.int .i64 (gp), .slice A11 n11 c11]
        have LU12 : Hid (Boos w12 (.slice A11 n11 c11) (gl)) := hw12 ▸ Rowz.alloc hx11.boos _
        clear hx11 hb11 hw12 hb12
        have pS : (w11.alloc (.cells #[.int .i64 (gp), .slice A11 n11 c11] 24)).cell? ⟨w.heap.size, 0, none⟩ = some (.int .i64 (p)) := by rw [HW12.out]; exact S12.out.c0
        have rS : (w11.alloc (.cells #[.int .i64 (gp), .slice A11 n11 c11] 24)).cell? ⟨w.heap.size, 1, none⟩ = some (.slice A n c) := by rw [HW12.out]; exact S12.out.c1
        have pT : (w11.alloc (.cells #[.int .i64 (gp), .slice A11 n11 c11] 24)).cell? ⟨w.heap.size + 1, 0, none⟩ = some (.int .i64 (q)) := by rw [HW12.out]; exact T12.out.c0
        have rT : (w11.alloc (.cells #[.int .i64 (gp), .slice A11 n11 c11] 24)).cell? ⟨w.heap.size + 1, 1, none⟩ = some (.slice At nt ct) := by rw [HW12.out]; exact T12.out.c1
        have pX : (w11.alloc (.cells #[.int .i64 (gp), .slice A11 n11 c11] 24)).cell? ⟨bX, 0, none⟩ = some (.int .i64 (up)) := by rw [HW12.out]; exact X12.out.c0
        have rX : (w11.alloc (.cells #[.int .i64 (gp), .slice A11 n11 c11] 24)).cell? ⟨bX, 1, none⟩ = some (.slice A7 n7 c7) := by rw [HW12.out]; exact X12.out.c1
        have pY : (w11.alloc (.cells #[.int .i64 (gp), .slice A11 n11 c11] 24)).cell? ⟨bY, 0, none⟩ = some (.int .i64 (up)) := by rw [HW12.out]; exact Y12.out.c0
        have rY : (w11.alloc (.cells #[.int .i64 (gp), .slice A11 n11 c11] 24)).cell? ⟨bY, 1, none⟩ = some (.slice A9 n9 c9) := by rw [HW12.out]; exact Y12.out.c1
        go_wp2_with fail
        rw [HW12.out]
        clear pS rS pT rT pX rX pY rY
        have HGU : Hid (bY < w11.heap.size) := Y11.out.lt
        obtain ⟨bU, hbU⟩ : ∃ bU, bU = w11.heap.size := ⟨_, rfl⟩
        rw [← hbU] at U12 HGU ⊢
        clear hbU
        refine (HGV.out ▸ r8Give_any w12 p _ l pg LS12.out HLL.out).mono ?_
        rintro e w13 ⟨x13, rfl, hx13, hb13⟩
        obtain ⟨A13, n13, c13, rfl, _, _, _⟩ := hx13.boos.form
        have HB13 : Hid (Below w.heap.size w w13) := HB12.out.trans (hb13.mono HB12.out.size)
        have LS13 : Hid (Boos w13 (.slice A n c) l) := LS12.out.below hb13
        have LT13 : Hid (Boos w13 (.slice At nt ct) l2) := LT12.out.below hb13
        have VB13 : Hid (Byt w13 (.slice Ab nb cb) b) := VB12.out.below hb13
        have LX13 : Hid (Boos w13 (.slice A7 n7 c7) (ul)) := LX12.out.below hb13
        have LY13 : Hid (Boos w13 (.slice A9 n9 c9) (ul)) := LY12.out.below hb13
        have LU13 : Hid (Boos w13 (.slice A11 n11 c11) (gl)) := LU12.out.below hb13
        have S13 : Hid (SpBox w13 (w.heap.size) (p) (.slice A n c)) := S12.out.below hb13
        have T13 : Hid (SpBox w13 (w.heap.size + 1) (q) (.slice At nt ct)) := T12.out.below hb13
        have X13 : Hid (SpBox w13 (bX) (up) (.slice A7 n7 c7)) := X12.out.below hb13
        have Y13 : Hid (SpBox w13 (bY) (up) (.slice A9 n9 c9)) := Y12.out.below hb13
        have U13 : Hid (SpBox w13 (bU) (gp) (.slice A11 n11 c11)) := U12.out.below hb13
        obtain ⟨w14, hw14⟩ : ∃ u, (w13.alloc (.cells #[.int .i64 (gp), .slice A13 n13 c13] 24)) = u := ⟨_, rfl⟩
        have HW14 := Lib.hid hw14
        have hb14 : Below w13.heap.size w13 w14 := hw14 ▸ below_new _ _
        have HB14 : Hid (Below w.heap.size w w14) := HB13.out.trans (hb14.mono HB13.out.size)
        have LS14 : Hid (Boos w14 (.slice A n c) l) := LS13.out.below hb14
        have LT14 : Hid (Boos w14 (.slice At nt ct) l2) := LT13.out.below hb14
        have VB14 : Hid (Byt w14 (.slice Ab nb cb) b) := VB13.out.below hb14
        have LX14 : Hid (Boos w14 (.slice A7 n7 c7) (ul)) := LX13.out.below hb14
        have LY14 : Hid (Boos w14 (.slice A9 n9 c9) (ul)) := LY13.out.below hb14
        have LU14 : Hid (Boos w14 (.slice A11 n11 c11) (gl)) := LU13.out.below hb14
        have S14 : Hid (SpBox w14 (w.heap.size) (p) (.slice A n c)) := S13.out.below hb14
        have T14 : Hid (SpBox w14 (w.heap.size + 1) (q) (.slice At nt ct)) := T13.out.below hb14
        have X14 : Hid (SpBox w14 (bX) (up) (.slice A7 n7 c7)) := X13.out.below hb14
        have Y14 : Hid (SpBox w14 (bY) (up) (.slice A9 n9 c9)) := Y13.out.below hb14
        have U14 : Hid (SpBox w14 (bU) (gp) (.slice A11 n11 c11)) := U13.out.below hb14
        have V14 : Hid (SpBox w14 w13.heap.size (gp) (.slice A13 n13 c13)) := hw14 ▸ SBox.new w13 24 [.int .i64 (gp), .slice A13 n13 c13]
        have LV14 : Hid (Boos w14 (.slice A13 n13 c13) (gl)) := hw14 ▸ Rowz.alloc hx13.boos _
        clear hx13 hb13 hw14 hb14
        have pS : (w13.alloc (.cells #[.int .i64 (gp), .slice A13 n13 c13] 24)).cell? ⟨w.heap.size, 0, none⟩ = some (.int .i64 (p)) := by rw [HW14.out]; exact S14.out.c0
        have rS : (w13.alloc (.cells #[.int .i64 (gp), .slice A13 n13 c13] 24)).cell? ⟨w.heap.size, 1, none⟩ = some (.slice A n c) := by rw [HW14.out]; exact S14.out.c1
        have pT : (w13.alloc (.cells #[.int .i64 (gp), .slice A13 n13 c13] 24)).cell? ⟨w.heap.size + 1, 0, none⟩ = some (.int .i64 (q)) := by rw [HW14.out]; exact T14.out.c0
        have rT : (w13.alloc (.cells #[.int .i64 (gp), .slice A13 n13 c13] 24)).cell? ⟨w.heap.size + 1, 1, none⟩ = some (.slice At nt ct) := by rw [HW14.out]; exact T14.out.c1
        have pX : (w13.alloc (.cells #[.int .i64 (gp), .slice A13 n13 c13] 24)).cell? ⟨bX, 0, none⟩ = some (.int .i64 (up)) := by rw [HW14.out]; exact X14.out.c0
        have rX : (w13.alloc (.cells #[.int .i64 (gp), .slice A13 n13 c13] 24)).cell? ⟨bX, 1, none⟩ = some (.slice A7 n7 c7) := by rw [HW14.out]; exact X14.out.c1
        have pY : (w13.alloc (.cells #[.int .i64 (gp), .slice A13 n13 c13] 24)).cell? ⟨bY, 0, none⟩ = some (.int .i64 (up)) := by rw [HW14.out]; exact Y14.out.c0
        have rY : (w13.alloc (.cells #[.int .i64 (gp), .slice A13 n13 c13] 24)).cell? ⟨bY, 1, none⟩ = some (.slice A9 n9 c9) := by rw [HW14.out]; exact Y14.out.c1
        have pU : (w13.alloc (.cells #[.int .i64 (gp), .slice A13 n13 c13] 24)).cell? ⟨bU, 0, none⟩ = some (.int .i64 (gp)) := by rw [HW14.out]; exact U14.out.c0
        have rU : (w13.alloc (.cells #[.int .i64 (gp), .slice A13 n13 c13] 24)).cell? ⟨bU, 1, none⟩ = some (.slice A11 n11 c11) := by rw [HW14.out]; exact U14.out.c1
        go_wp2_with fail
        rw [HW14.out]
        clear pS rS pT rT pX rX pY rY pU rU
        have HGV : Hid (bU < w13.heap.size) := U13.out.lt
        obtain ⟨bV, hbV⟩ : ∃ bV, bV = w13.heap.size := ⟨_, rfl⟩
        rw [← hbV] at V14 HGV ⊢
        clear hbV
        refine (dec_same up ul ▸ kitspace_any w14 up up _ _ ul ul LX14.out LY14.out).mono ?_
        rintro e w15 ⟨rfl, hb15⟩
        have HB15 : Hid (Below w.heap.size w w15) := HB14.out.trans (hb15.mono HB14.out.size)
        have LS15 : Hid (Boos w15 (.slice A n c) l) := LS14.out.below hb15
        have LT15 : Hid (Boos w15 (.slice At nt ct) l2) := LT14.out.below hb15
        have VB15 : Hid (Byt w15 (.slice Ab nb cb) b) := VB14.out.below hb15
        have LX15 : Hid (Boos w15 (.slice A7 n7 c7) (ul)) := LX14.out.below hb15
        have LY15 : Hid (Boos w15 (.slice A9 n9 c9) (ul)) := LY14.out.below hb15
        have LU15 : Hid (Boos w15 (.slice A11 n11 c11) (gl)) := LU14.out.below hb15
        have LV15 : Hid (Boos w15 (.slice A13 n13 c13) (gl)) := LV14.out.below hb15
        have S15 : Hid (SpBox w15 (w.heap.size) (p) (.slice A n c)) := S14.out.below hb15
        have T15 : Hid (SpBox w15 (w.heap.size + 1) (q) (.slice At nt ct)) := T14.out.below hb15
        have X15 : Hid (SpBox w15 (bX) (up) (.slice A7 n7 c7)) := X14.out.below hb15
        have Y15 : Hid (SpBox w15 (bY) (up) (.slice A9 n9 c9)) := Y14.out.below hb15
        have U15 : Hid (SpBox w15 (bU) (gp) (.slice A11 n11 c11)) := U14.out.below hb15
        have V15 : Hid (SpBox w15 (bV) (gp) (.slice A13 n13 c13)) := V14.out.below hb15
        clear hb15
        have pS := S15.out.c0
        have rS := S15.out.c1
        have pT := T15.out.c0
        have rT := T15.out.c1
        have pX := X15.out.c0
        have rX := X15.out.c1
        have pY := Y15.out.c0
        have rY := Y15.out.c1
        have pU := U15.out.c0
        have rU := U15.out.c1
        have pV := V15.out.c0
        have rV := V15.out.c1
        go_wp2_with fail
        clear pS rS pT rT pX rX pY rY pU rU pV rV
        refine (dec_same gp gl ▸ kitspace_any w15 gp gp _ _ gl gl LU15.out LV15.out).mono ?_
        rintro e w16 ⟨rfl, hb16⟩
        have HB16 : Hid (Below w.heap.size w w16) := HB15.out.trans (hb16.mono HB15.out.size)
        have LS16 : Hid (Boos w16 (.slice A n c) l) := LS15.out.below hb16
        have LT16 : Hid (Boos w16 (.slice At nt ct) l2) := LT15.out.below hb16
        have VB16 : Hid (Byt w16 (.slice Ab nb cb) b) := VB15.out.below hb16
        have LX16 : Hid (Boos w16 (.slice A7 n7 c7) (ul)) := LX15.out.below hb16
        have LY16 : Hid (Boos w16 (.slice A9 n9 c9) (ul)) := LY15.out.below hb16
        have LU16 : Hid (Boos w16 (.slice A11 n11 c11) (gl)) := LU15.out.below hb16
        have LV16 : Hid (Boos w16 (.slice A13 n13 c13) (gl)) := LV15.out.below hb16
        have S16 : Hid (SpBox w16 (w.heap.size) (p) (.slice A n c)) := S15.out.below hb16
        have T16 : Hid (SpBox w16 (w.heap.size + 1) (q) (.slice At nt ct)) := T15.out.below hb16
        have X16 : Hid (SpBox w16 (bX) (up) (.slice A7 n7 c7)) := X15.out.below hb16
        have Y16 : Hid (SpBox w16 (bY) (up) (.slice A9 n9 c9)) := Y15.out.below hb16
        have U16 : Hid (SpBox w16 (bU) (gp) (.slice A11 n11 c11)) := U15.out.below hb16
        have V16 : Hid (SpBox w16 (bV) (gp) (.slice A13 n13 c13)) := V15.out.below hb16
        clear hb16
        have pS := S16.out.c0
        have rS := S16.out.c1
        have pT := T16.out.c0
        have rT := T16.out.c1
        have pX := X16.out.c0
        have rX := X16.out.c1
        have pY := Y16.out.c0
        have rY := Y16.out.c1
        have pU := U16.out.c0
        have rU := U16.out.c1
        have pV := V16.out.c0
        have rV := V16.out.c1
        go_wp2_with fail
        clear pS rS pT rT pX rX pY rY pU rU pV rV
        refine (HBO.out ▸ spBoth_any w16 p q _ _ l l2 LS16.out LT16.out HLL.out HLM.out).mono ?_
        rintro e w17 ⟨x17, rfl, hx17, hb17⟩
        obtain ⟨A17, n17, c17, rfl, _, _, _⟩ := hx17.boos.form
        have HB17 : Hid (Below w.heap.size w w17) := HB16.out.trans (hb17.mono HB16.out.size)
        have LS17 : Hid (Boos w17 (.slice A n c) l) := LS16.out.below hb17
        have LT17 : Hid (Boos w17 (.slice At nt ct) l2) := LT16.out.below hb17
        have VB17 : Hid (Byt w17 (.slice Ab nb cb) b) := VB16.out.below hb17
        have LX17 : Hid (Boos w17 (.slice A7 n7 c7) (ul)) := LX16.out.below hb17
        have LY17 : Hid (Boos w17 (.slice A9 n9 c9) (ul)) := LY16.out.below hb17
        have S17 : Hid (SpBox w17 (w.heap.size) (p) (.slice A n c)) := S16.out.below hb17
        have T17 : Hid (SpBox w17 (w.heap.size + 1) (q) (.slice At nt ct)) := T16.out.below hb17
        have X17 : Hid (SpBox w17 (bX) (up) (.slice A7 n7 c7)) := X16.out.below hb17
        have Y17 : Hid (SpBox w17 (bY) (up) (.slice A9 n9 c9)) := Y16.out.below hb17
        have HNX18 : Hid (∀ j, (Value.slice A17 n17 c17).ownBlock = some j → j ≠ bY) := fun j hj e => by have := (World.ownsRow.lt hx17 _ hj).1; have := Y16.out.lt; omega
        have pS := S17.out.c0
        have rS := S17.out.c1
        have pT := T17.out.c0
        have rT := T17.out.c1
        have pX := X17.out.c0
        have rX := X17.out.c1
        have pY := Y17.out.c0
        have rY := Y17.out.c1
        go_wp2_with (
          (refine wpList_storeS X17.out spInfo rfl _ _ rfl rfl (ds := [.int .i64 (op), (.slice A17 n17 c17)]) rfl rfl (one_sp _ _ _ _) ?_
           intro w18 hs hg hz
           have HB18 : Hid (Below w.heap.size w w18) := HB17.out.grown hg HB17.out.size (fun j e => by cases e; have := HGX.out; have := HGY.out; omega)
           have X18 : Hid (SpBox w18 bX (op) (.slice A17 n17 c17)) := hs
           have LX18 : Hid (Boos w18 (.slice A17 n17 c17) (ol)) := Rowz.grown hx17.boos hg (fun j hj e => by have := (World.ownsRow.lt hx17 _ hj).1; have := X16.out.lt; omega)
           have LS18 : Hid (Boos w18 (.slice A n c) l) := HVW.out.below HB18.out
           have LT18 : Hid (Boos w18 (.slice At nt ct) l2) := HXW.out.below HB18.out
           have VB18 : Hid (Byt w18 (.slice Ab nb cb) b) := HYW.out.below HB18.out
           have S18 : Hid (SpBox w18 (w.heap.size) (p) (.slice A n c)) := S17.out.grown hg (by have := HGX.out; have := HGY.out; omega)
           have T18 : Hid (SpBox w18 (w.heap.size + 1) (q) (.slice At nt ct)) := T17.out.grown hg (by have := HGX.out; have := HGY.out; omega)
           have Y18 : Hid (SpBox w18 (bY) (up) (.slice A9 n9 c9)) := Y17.out.grown hg (by have := HGX.out; have := HGY.out; omega)
           clear pS rS pT rT pX rX pY rY
           clear hs hg hz
           have pS := S18.out.c0
           have rS := S18.out.c1
           have pT := T18.out.c0
           have rT := T18.out.c1
           have pX := X18.out.c0
           have rX := X18.out.c1
           have pY := Y18.out.c0
           have rY := Y18.out.c1))
        clear hx17 hb17
        clear pS rS pT rT pX rX pY rY
        refine (HBO.out ▸ r8Both_any w18 p q _ _ l l2 LS18.out LT18.out HLL.out HLM.out).mono ?_
        rintro e w19 ⟨x19, rfl, hx19, hb19⟩
        obtain ⟨A19, n19, c19, rfl, _, _, _⟩ := hx19.boos.form
        have HB19 : Hid (Below w.heap.size w w19) := HB18.out.trans (hb19.mono HB18.out.size)
        have LS19 : Hid (Boos w19 (.slice A n c) l) := LS18.out.below hb19
        have LT19 : Hid (Boos w19 (.slice At nt ct) l2) := LT18.out.below hb19
        have VB19 : Hid (Byt w19 (.slice Ab nb cb) b) := VB18.out.below hb19
        have LX19 : Hid (Boos w19 (.slice A17 n17 c17) (ol)) := LX18.out.below hb19
        have S19 : Hid (SpBox w19 (w.heap.size) (p) (.slice A n c)) := S18.out.below hb19
        have T19 : Hid (SpBox w19 (w.heap.size + 1) (q) (.slice At nt ct)) := T18.out.below hb19
        have X19 : Hid (SpBox w19 (bX) (op) (.slice A17 n17 c17)) := X18.out.below hb19
        have Y19 : Hid (SpBox w19 (bY) (up) (.slice A9 n9 c9)) := Y18.out.below hb19
        have pS := S19.out.c0
        have rS := S19.out.c1
        have pT := T19.out.c0
        have rT := T19.out.c1
        have pX := X19.out.c0
        have rX := X19.out.c1
        have pY := Y19.out.c0
        have rY := Y19.out.c1
        go_wp2_with (
          (refine wpList_storeS Y19.out spInfo rfl _ _ rfl rfl (ds := [.int .i64 (op), (.slice A19 n19 c19)]) rfl rfl (one_sp _ _ _ _) ?_
           intro w20 hs hg hz
           have HB20 : Hid (Below w.heap.size w w20) := HB19.out.grown hg HB19.out.size (fun j e => by cases e; have := HGX.out; have := HGY.out; omega)
           have Y20 : Hid (SpBox w20 bY (op) (.slice A19 n19 c19)) := hs
           have LY20 : Hid (Boos w20 (.slice A19 n19 c19) (ol)) := Rowz.grown hx19.boos hg (fun j hj e => by have := (World.ownsRow.lt hx19 _ hj).1; have := Y18.out.lt; omega)
           have LS20 : Hid (Boos w20 (.slice A n c) l) := HVW.out.below HB20.out
           have LT20 : Hid (Boos w20 (.slice At nt ct) l2) := HXW.out.below HB20.out
           have VB20 : Hid (Byt w20 (.slice Ab nb cb) b) := HYW.out.below HB20.out
           have S20 : Hid (SpBox w20 (w.heap.size) (p) (.slice A n c)) := S19.out.grown hg (by have := HGX.out; have := HGY.out; omega)
           have T20 : Hid (SpBox w20 (w.heap.size + 1) (q) (.slice At nt ct)) := T19.out.grown hg (by have := HGX.out; have := HGY.out; omega)
           have X20 : Hid (SpBox w20 (bX) (op) (.slice A17 n17 c17)) := X19.out.grown hg (by have := HGX.out; have := HGY.out; omega)
           have LX20 : Hid (Boos w20 (.slice A17 n17 c17) (ol)) := Rowz.grown LX19.out hg HNX18.out
           clear pS rS pT rT pX rX pY rY
           clear hs hg hz
           have pS := S20.out.c0
           have rS := S20.out.c1
           have pT := T20.out.c0
           have rT := T20.out.c1
           have pX := X20.out.c0
           have rX := X20.out.c1
           have pY := Y20.out.c0
           have rY := Y20.out.c1))
        clear hx19 hb19
        clear pS rS pT rT pX rX pY rY
        refine (HBS.out ▸ spBytes_any w20 p _ l LS20.out HLL.out).mono ?_
        rintro e w21 ⟨yP, rfl, hy, hb21⟩
        have HB21 : Hid (Below w.heap.size w w21) := HB20.out.trans (hb21.mono HB20.out.size)
        have LS21 : Hid (Boos w21 (.slice A n c) l) := LS20.out.below hb21
        have LT21 : Hid (Boos w21 (.slice At nt ct) l2) := LT20.out.below hb21
        have VB21 : Hid (Byt w21 (.slice Ab nb cb) b) := VB20.out.below hb21
        have LX21 : Hid (Boos w21 (.slice A17 n17 c17) (ol)) := LX20.out.below hb21
        have LY21 : Hid (Boos w21 (.slice A19 n19 c19) (ol)) := LY20.out.below hb21
        have S21 : Hid (SpBox w21 (w.heap.size) (p) (.slice A n c)) := S20.out.below hb21
        have T21 : Hid (SpBox w21 (w.heap.size + 1) (q) (.slice At nt ct)) := T20.out.below hb21
        have X21 : Hid (SpBox w21 (bX) (op) (.slice A17 n17 c17)) := X20.out.below hb21
        have Y21 : Hid (SpBox w21 (bY) (op) (.slice A19 n19 c19)) := Y20.out.below hb21
        obtain ⟨AP, nP, cP, rfl, _, _, _⟩ := hy.byt.form
        have P21 : Hid (Byt w21 (.slice AP nP cP) ys) := hy.byt
        clear hy
        clear hb21
        have pS := S21.out.c0
        have rS := S21.out.c1
        have pT := T21.out.c0
        have rT := T21.out.c1
        have pX := X21.out.c0
        have rX := X21.out.c1
        have pY := Y21.out.c0
        have rY := Y21.out.c1
        go_wp2_with fail
        clear pS rS pT rT pX rX pY rY
        refine (HBS.out ▸ r8Bytes_any w21 p _ l LS21.out HLL.out).mono ?_
        rintro e w22 ⟨yQ, rfl, hy, hb22⟩
        have HB22 : Hid (Below w.heap.size w w22) := HB21.out.trans (hb22.mono HB21.out.size)
        have LS22 : Hid (Boos w22 (.slice A n c) l) := LS21.out.below hb22
        have LT22 : Hid (Boos w22 (.slice At nt ct) l2) := LT21.out.below hb22
        have VB22 : Hid (Byt w22 (.slice Ab nb cb) b) := VB21.out.below hb22
        have LX22 : Hid (Boos w22 (.slice A17 n17 c17) (ol)) := LX21.out.below hb22
        have LY22 : Hid (Boos w22 (.slice A19 n19 c19) (ol)) := LY21.out.below hb22
        have P22 : Hid (Byt w22 (.slice AP nP cP) ys) := P21.out.below hb22
        have S22 : Hid (SpBox w22 (w.heap.size) (p) (.slice A n c)) := S21.out.below hb22
        have T22 : Hid (SpBox w22 (w.heap.size + 1) (q) (.slice At nt ct)) := T21.out.below hb22
        have X22 : Hid (SpBox w22 (bX) (op) (.slice A17 n17 c17)) := X21.out.below hb22
        have Y22 : Hid (SpBox w22 (bY) (op) (.slice A19 n19 c19)) := Y21.out.below hb22
        obtain ⟨AQ, nQ, cQ, rfl, _, _, _⟩ := hy.byt.form
        have Q22 : Hid (Byt w22 (.slice AQ nQ cQ) ys) := hy.byt
        clear hy
        clear hb22
        have pS := S22.out.c0
        have rS := S22.out.c1
        have pT := T22.out.c0
        have rT := T22.out.c1
        have pX := X22.out.c0
        have rX := X22.out.c1
        have pY := Y22.out.c0
        have rY := Y22.out.c1
        go_wp2_with fail
        clear pS rS pT rT pX rX pY rY
        refine (dec_same op ol ▸ kitspace_any w22 op op _ _ ol ol LX22.out LY22.out).mono ?_
        rintro e w23 ⟨rfl, hb23⟩
        have HB23 : Hid (Below w.heap.size w w23) := HB22.out.trans (hb23.mono HB22.out.size)
        have LS23 : Hid (Boos w23 (.slice A n c) l) := LS22.out.below hb23
        have LT23 : Hid (Boos w23 (.slice At nt ct) l2) := LT22.out.below hb23
        have VB23 : Hid (Byt w23 (.slice Ab nb cb) b) := VB22.out.below hb23
        have LX23 : Hid (Boos w23 (.slice A17 n17 c17) (ol)) := LX22.out.below hb23
        have LY23 : Hid (Boos w23 (.slice A19 n19 c19) (ol)) := LY22.out.below hb23
        have P23 : Hid (Byt w23 (.slice AP nP cP) ys) := P22.out.below hb23
        have Q23 : Hid (Byt w23 (.slice AQ nQ cQ) ys) := Q22.out.below hb23
        have S23 : Hid (SpBox w23 (w.heap.size) (p) (.slice A n c)) := S22.out.below hb23
        have T23 : Hid (SpBox w23 (w.heap.size + 1) (q) (.slice At nt ct)) := T22.out.below hb23
        have X23 : Hid (SpBox w23 (bX) (op) (.slice A17 n17 c17)) := X22.out.below hb23
        have Y23 : Hid (SpBox w23 (bY) (op) (.slice A19 n19 c19)) := Y22.out.below hb23
        have t1 := text_of P23.out
        have t2 := text_of Q23.out
        clear hb23
        have pS := S23.out.c0
        have rS := S23.out.c1
        have pT := T23.out.c0
        have rT := T23.out.c1
        have pX := X23.out.c0
        have rX := X23.out.c1
        have pY := Y23.out.c0
        have rY := Y23.out.c1
        go_wp2_with fail
        clear pS rS pT rT pX rX pY rY
        clear t1 t2
        refine (kitown_any w23 (.slice Ab nb cb) b VB23.out (by have := HN.out; omega)).mono ?_
        rintro e w24 ⟨vo, rfl, ho, hb24⟩
        have HB24 : Hid (Below w.heap.size w w24) := HB23.out.trans (hb24.mono HB23.out.size)
        have LS24 : Hid (Boos w24 (.slice A n c) l) := LS23.out.below hb24
        have LT24 : Hid (Boos w24 (.slice At nt ct) l2) := LT23.out.below hb24
        have VB24 : Hid (Byt w24 (.slice Ab nb cb) b) := VB23.out.below hb24
        have LX24 : Hid (Boos w24 (.slice A17 n17 c17) (ol)) := LX23.out.below hb24
        have LY24 : Hid (Boos w24 (.slice A19 n19 c19) (ol)) := LY23.out.below hb24
        have S24 : Hid (SpBox w24 (w.heap.size) (p) (.slice A n c)) := S23.out.below hb24
        have T24 : Hid (SpBox w24 (w.heap.size + 1) (q) (.slice At nt ct)) := T23.out.below hb24
        have X24 : Hid (SpBox w24 (bX) (op) (.slice A17 n17 c17)) := X23.out.below hb24
        have Y24 : Hid (SpBox w24 (bY) (op) (.slice A19 n19 c19)) := Y23.out.below hb24
        have O24 : Hid (Byt w24 vo b) := ho.byt
        clear ho
        clear hb24
        have pS := S24.out.c0
        have rS := S24.out.c1
        have pT := T24.out.c0
        have rT := T24.out.c1
        have pX := X24.out.c0
        have rX := X24.out.c1
        have pY := Y24.out.c0
        have rY := Y24.out.c1
        go_wp2_with fail
        clear pS rS pT rT pX rX pY rY
        refine (HRD.out ▸ spRead_any w24 vo b O24.out (by have := HN.out; omega)).mono ?_
        rintro e w25 ⟨x25, rfl, hx25, hb25⟩
        obtain ⟨A25, n25, c25, rfl, _, _, _⟩ := hx25.boos.form
        have HB25 : Hid (Below w.heap.size w w25) := HB24.out.trans (hb25.mono HB24.out.size)
        have LS25 : Hid (Boos w25 (.slice A n c) l) := LS24.out.below hb25
        have LT25 : Hid (Boos w25 (.slice At nt ct) l2) := LT24.out.below hb25
        have VB25 : Hid (Byt w25 (.slice Ab nb cb) b) := VB24.out.below hb25
        have LX25 : Hid (Boos w25 (.slice A17 n17 c17) (ol)) := LX24.out.below hb25
        have LY25 : Hid (Boos w25 (.slice A19 n19 c19) (ol)) := LY24.out.below hb25
        have S25 : Hid (SpBox w25 (w.heap.size) (p) (.slice A n c)) := S24.out.below hb25
        have T25 : Hid (SpBox w25 (w.heap.size + 1) (q) (.slice At nt ct)) := T24.out.below hb25
        have X25 : Hid (SpBox w25 (bX) (op) (.slice A17 n17 c17)) := X24.out.below hb25
        have Y25 : Hid (SpBox w25 (bY) (op) (.slice A19 n19 c19)) := Y24.out.below hb25
        have HNX26 : Hid (∀ j, (Value.slice A25 n25 c25).ownBlock = some j → j ≠ bY) := fun j hj e => by have := (World.ownsRow.lt hx25 _ hj).1; have := Y24.out.lt; omega
        have pS := S25.out.c0
        have rS := S25.out.c1
        have pT := T25.out.c0
        have rT := T25.out.c1
        have pX := X25.out.c0
        have rX := X25.out.c1
        have pY := Y25.out.c0
        have rY := Y25.out.c1
        go_wp2_with (
          (refine wpList_storeS X25.out spInfo rfl _ _ rfl rfl (ds := [.int .i64 (rp), (.slice A25 n25 c25)]) rfl rfl (one_sp _ _ _ _) ?_
           intro w26 hs hg hz
           have HB26 : Hid (Below w.heap.size w w26) := HB25.out.grown hg HB25.out.size (fun j e => by cases e; have := HGX.out; have := HGY.out; omega)
           have X26 : Hid (SpBox w26 bX (rp) (.slice A25 n25 c25)) := hs
           have LX26 : Hid (Boos w26 (.slice A25 n25 c25) (rl)) := Rowz.grown hx25.boos hg (fun j hj e => by have := (World.ownsRow.lt hx25 _ hj).1; have := X24.out.lt; omega)
           have LS26 : Hid (Boos w26 (.slice A n c) l) := HVW.out.below HB26.out
           have LT26 : Hid (Boos w26 (.slice At nt ct) l2) := HXW.out.below HB26.out
           have VB26 : Hid (Byt w26 (.slice Ab nb cb) b) := HYW.out.below HB26.out
           have S26 : Hid (SpBox w26 (w.heap.size) (p) (.slice A n c)) := S25.out.grown hg (by have := HGX.out; have := HGY.out; omega)
           have T26 : Hid (SpBox w26 (w.heap.size + 1) (q) (.slice At nt ct)) := T25.out.grown hg (by have := HGX.out; have := HGY.out; omega)
           have Y26 : Hid (SpBox w26 (bY) (op) (.slice A19 n19 c19)) := Y25.out.grown hg (by have := HGX.out; have := HGY.out; omega)
           clear pS rS pT rT pX rX pY rY
           clear hs hg hz
           have pS := S26.out.c0
           have rS := S26.out.c1
           have pT := T26.out.c0
           have rT := T26.out.c1
           have pX := X26.out.c0
           have rX := X26.out.c1
           have pY := Y26.out.c0
           have rY := Y26.out.c1))
        clear hx25 hb25
        clear pS rS pT rT pX rX pY rY
        refine (HRD.out ▸ r8Read_any w26 _ b VB26.out (by have := HN.out; omega)).mono ?_
        rintro e w27 ⟨x27, rfl, hx27, hb27⟩
        obtain ⟨A27, n27, c27, rfl, _, _, _⟩ := hx27.boos.form
        have HB27 : Hid (Below w.heap.size w w27) := HB26.out.trans (hb27.mono HB26.out.size)
        have LS27 : Hid (Boos w27 (.slice A n c) l) := LS26.out.below hb27
        have LT27 : Hid (Boos w27 (.slice At nt ct) l2) := LT26.out.below hb27
        have VB27 : Hid (Byt w27 (.slice Ab nb cb) b) := VB26.out.below hb27
        have LX27 : Hid (Boos w27 (.slice A25 n25 c25) (rl)) := LX26.out.below hb27
        have S27 : Hid (SpBox w27 (w.heap.size) (p) (.slice A n c)) := S26.out.below hb27
        have T27 : Hid (SpBox w27 (w.heap.size + 1) (q) (.slice At nt ct)) := T26.out.below hb27
        have X27 : Hid (SpBox w27 (bX) (rp) (.slice A25 n25 c25)) := X26.out.below hb27
        have Y27 : Hid (SpBox w27 (bY) (op) (.slice A19 n19 c19)) := Y26.out.below hb27
        have pS := S27.out.c0
        have rS := S27.out.c1
        have pT := T27.out.c0
        have rT := T27.out.c1
        have pX := X27.out.c0
        have rX := X27.out.c1
        have pY := Y27.out.c0
        have rY := Y27.out.c1
        go_wp2_with (
          (refine wpList_storeS Y27.out spInfo rfl _ _ rfl rfl (ds := [.int .i64 (rp), (.slice A27 n27 c27)]) rfl rfl (one_sp _ _ _ _) ?_
           intro w28 hs hg hz
           have HB28 : Hid (Below w.heap.size w w28) := HB27.out.grown hg HB27.out.size (fun j e => by cases e; have := HGX.out; have := HGY.out; omega)
           have Y28 : Hid (SpBox w28 bY (rp) (.slice A27 n27 c27)) := hs
           have LY28 : Hid (Boos w28 (.slice A27 n27 c27) (rl)) := Rowz.grown hx27.boos hg (fun j hj e => by have := (World.ownsRow.lt hx27 _ hj).1; have := Y26.out.lt; omega)
           have LS28 : Hid (Boos w28 (.slice A n c) l) := HVW.out.below HB28.out
           have LT28 : Hid (Boos w28 (.slice At nt ct) l2) := HXW.out.below HB28.out
           have VB28 : Hid (Byt w28 (.slice Ab nb cb) b) := HYW.out.below HB28.out
           have S28 : Hid (SpBox w28 (w.heap.size) (p) (.slice A n c)) := S27.out.grown hg (by have := HGX.out; have := HGY.out; omega)
           have T28 : Hid (SpBox w28 (w.heap.size + 1) (q) (.slice At nt ct)) := T27.out.grown hg (by have := HGX.out; have := HGY.out; omega)
           have X28 : Hid (SpBox w28 (bX) (rp) (.slice A25 n25 c25)) := X27.out.grown hg (by have := HGX.out; have := HGY.out; omega)
           have LX28 : Hid (Boos w28 (.slice A25 n25 c25) (rl)) := Rowz.grown LX27.out hg HNX26.out
           clear pS rS pT rT pX rX pY rY
           clear hs hg hz
           have pS := S28.out.c0
           have rS := S28.out.c1
           have pT := T28.out.c0
           have rT := T28.out.c1
           have pX := X28.out.c0
           have rX := X28.out.c1
           have pY := Y28.out.c0
           have rY := Y28.out.c1))
        clear hx27 hb27
        clear pS rS pT rT pX rX pY rY
        obtain ⟨w29, hw29⟩ : ∃ u, w28.drew = u := ⟨_, rfl⟩
        have HD29 := Lib.hid hw29
        have hb29 : Below w28.heap.size w28 w29 := hw29 ▸ (Below.refl _ w28).drew
        have HB29 : Hid (Below w.heap.size w w29) := HB28.out.trans (hb29.mono HB28.out.size)
        have LS29 : Hid (Boos w29 (.slice A n c) l) := LS28.out.below hb29
        have LT29 : Hid (Boos w29 (.slice At nt ct) l2) := LT28.out.below hb29
        have VB29 : Hid (Byt w29 (.slice Ab nb cb) b) := VB28.out.below hb29
        have LX29 : Hid (Boos w29 (.slice A25 n25 c25) (rl)) := LX28.out.below hb29
        have LY29 : Hid (Boos w29 (.slice A27 n27 c27) (rl)) := LY28.out.below hb29
        have S29 : Hid (SpBox w29 (w.heap.size) (p) (.slice A n c)) := S28.out.below hb29
        have T29 : Hid (SpBox w29 (w.heap.size + 1) (q) (.slice At nt ct)) := T28.out.below hb29
        have X29 : Hid (SpBox w29 (bX) (rp) (.slice A25 n25 c25)) := X28.out.below hb29
        have Y29 : Hid (SpBox w29 (bY) (rp) (.slice A27 n27 c27)) := Y28.out.below hb29
        clear hw29 hb29
        refine wp_region_R (R := fun x y => Below x.heap.size x y) (by kernel_rfl) (fun _ => Below.refl _ _) (fun h k => h.trans (k.mono h.size)) (by kernel_rfl) (fun d v c a w h => by cases d <;> exact h)
          [(0, false), (1, false), (2, true), (3, false), (4, false), (5, false), (6, false), (7, false), (8, false), (9, false), (11, false), (10, true), (12, true), (13, true), (14, false), (15, false), (16, false), (18, false), (17, true), (19, true), (20, false), (21, false), (22, false), (23, false), (24, false), (26, false), (25, true), (27, true), (28, false), (29, false), (30, false), (31, false), (32, false), (34, false), (35, false), (33, true), (36, true), (37, false), (38, false), (39, false)] rfl (by kernel_rfl) (by kernel_rfl) ?_
        simp only [sel, List.getElem?_toArray, List.getElem?_cons_succ, List.getElem?_cons_zero]
        rw [HD29.out]
        refine sch_take (.agg #[.int .i64 (rp), (.slice A25 n25 c25)]) rfl (fun u hu => exec_loadS (SBox.below X29.out hu) Try.underlying24 spInfo _ rfl rfl) ?_
        simp only [Act.put, List.setIfInBounds_toArray, List.set_cons_zero, List.set_cons_succ]
        refine sch_take (.agg #[.int .i64 (rp), (.slice A27 n27 c27)]) rfl (fun u hu => exec_loadS (SBox.below Y29.out hu) Try.underlying24 spInfo _ rfl rfl) ?_
        simp only [Act.put, List.setIfInBounds_toArray, List.set_cons_zero, List.set_cons_succ]
        refine sch_call rfl ?_
        intro K hK
        go_simp
        refine (dec_same rp rl ▸ kitspace_any w29 rp rp _ _ rl rl LX29.out LY29.out).mono ?_
        rintro e w30 ⟨rfl, hb30⟩
        go_wp2_with fail
        refine hK _ _ hb30 ?_
        clear hK K
        have HB30 : Hid (Below w.heap.size w w30) := HB29.out.trans (hb30.mono HB29.out.size)
        have LS30 : Hid (Boos w30 (.slice A n c) l) := LS29.out.below hb30
        have LT30 : Hid (Boos w30 (.slice At nt ct) l2) := LT29.out.below hb30
        have VB30 : Hid (Byt w30 (.slice Ab nb cb) b) := VB29.out.below hb30
        have LX30 : Hid (Boos w30 (.slice A25 n25 c25) (rl)) := LX29.out.below hb30
        have LY30 : Hid (Boos w30 (.slice A27 n27 c27) (rl)) := LY29.out.below hb30
        have S30 : Hid (SpBox w30 (w.heap.size) (p) (.slice A n c)) := S29.out.below hb30
        have T30 : Hid (SpBox w30 (w.heap.size + 1) (q) (.slice At nt ct)) := T29.out.below hb30
        have X30 : Hid (SpBox w30 (bX) (rp) (.slice A25 n25 c25)) := X29.out.below hb30
        have Y30 : Hid (SpBox w30 (bY) (rp) (.slice A27 n27 c27)) := Y29.out.below hb30
        clear hb30
        iterate 6 (refine sch_take ?_ rfl ?_ ?_; rotate_left; (focus (intro u hu; go_simp <;> rfl)); simp only [Act.put, List.setIfInBounds_toArray, List.set_cons_zero, List.set_cons_succ])
        refine sch_take (.agg #[.int .i64 (p), (.slice A n c)]) rfl (fun u hu => exec_loadS (SBox.below S30.out hu) Try.underlying24 spInfo _ rfl rfl) ?_
        simp only [Act.put, List.setIfInBounds_toArray, List.set_cons_zero, List.set_cons_succ]
        refine sch_take (.agg #[.int .i64 (p), (.slice A n c)]) rfl (fun u hu => exec_loadS (SBox.below S30.out hu) Try.underlying24 spInfo _ rfl rfl) ?_
        simp only [Act.put, List.setIfInBounds_toArray, List.set_cons_zero, List.set_cons_succ]
        refine sch_call rfl ?_
        intro K hK
        go_simp
        refine (HFC.out ▸ spFree_any w30 p _ l LS30.out HLL.out).mono ?_
        rintro e w31 ⟨fv, rfl, hf, hb31⟩
        go_wp2_with fail
        refine hK _ _ hb31 ?_
        clear hK K
        have HB31 : Hid (Below w.heap.size w w31) := HB30.out.trans (hb31.mono HB30.out.size)
        have LS31 : Hid (Boos w31 (.slice A n c) l) := LS30.out.below hb31
        have LT31 : Hid (Boos w31 (.slice At nt ct) l2) := LT30.out.below hb31
        have VB31 : Hid (Byt w31 (.slice Ab nb cb) b) := VB30.out.below hb31
        have LX31 : Hid (Boos w31 (.slice A25 n25 c25) (rl)) := LX30.out.below hb31
        have LY31 : Hid (Boos w31 (.slice A27 n27 c27) (rl)) := LY30.out.below hb31
        have S31 : Hid (SpBox w31 (w.heap.size) (p) (.slice A n c)) := S30.out.below hb31
        have T31 : Hid (SpBox w31 (w.heap.size + 1) (q) (.slice At nt ct)) := T30.out.below hb31
        have X31 : Hid (SpBox w31 (bX) (rp) (.slice A25 n25 c25)) := X30.out.below hb31
        have Y31 : Hid (SpBox w31 (bY) (rp) (.slice A27 n27 c27)) := Y30.out.below hb31
        obtain ⟨Af1, nf1, cf1, rfl, _, _, _⟩ := hf.rowz.form
        have f131 : Hid (Rowz w31 (.slice Af1 nf1 cf1) (natC fs)) := hf.rowz
        clear hf
        clear hb31
        refine sch_call rfl ?_
        intro K hK
        go_simp
        refine (HFC.out ▸ r8Free_any w31 p _ l LS31.out HLL.out).mono ?_
        rintro e w32 ⟨fv, rfl, hf, hb32⟩
        go_wp2_with fail
        refine hK _ _ hb32 ?_
        clear hK K
        have HB32 : Hid (Below w.heap.size w w32) := HB31.out.trans (hb32.mono HB31.out.size)
        have LS32 : Hid (Boos w32 (.slice A n c) l) := LS31.out.below hb32
        have LT32 : Hid (Boos w32 (.slice At nt ct) l2) := LT31.out.below hb32
        have VB32 : Hid (Byt w32 (.slice Ab nb cb) b) := VB31.out.below hb32
        have LX32 : Hid (Boos w32 (.slice A25 n25 c25) (rl)) := LX31.out.below hb32
        have LY32 : Hid (Boos w32 (.slice A27 n27 c27) (rl)) := LY31.out.below hb32
        have f132 : Hid (Rowz w32 (.slice Af1 nf1 cf1) (natC fs)) := f131.out.below hb32
        have S32 : Hid (SpBox w32 (w.heap.size) (p) (.slice A n c)) := S31.out.below hb32
        have T32 : Hid (SpBox w32 (w.heap.size + 1) (q) (.slice At nt ct)) := T31.out.below hb32
        have X32 : Hid (SpBox w32 (bX) (rp) (.slice A25 n25 c25)) := X31.out.below hb32
        have Y32 : Hid (SpBox w32 (bY) (rp) (.slice A27 n27 c27)) := Y31.out.below hb32
        obtain ⟨Af2, nf2, cf2, rfl, _, _, _⟩ := hf.rowz.form
        have f232 : Hid (Rowz w32 (.slice Af2 nf2 cf2) (natC fs)) := hf.rowz
        clear hf
        clear hb32
        refine sch_call rfl ?_
        intro K hK
        go_simp
        refine (dec_list fs ▸ kitints_any w32 _ _ fs fs f132.out f232.out).mono ?_
        rintro e w33 ⟨rfl, hb33⟩
        go_wp2_with fail
        refine hK _ _ hb33 ?_
        clear hK K
        have HB33 : Hid (Below w.heap.size w w33) := HB32.out.trans (hb33.mono HB32.out.size)
        have LS33 : Hid (Boos w33 (.slice A n c) l) := LS32.out.below hb33
        have LT33 : Hid (Boos w33 (.slice At nt ct) l2) := LT32.out.below hb33
        have VB33 : Hid (Byt w33 (.slice Ab nb cb) b) := VB32.out.below hb33
        have LX33 : Hid (Boos w33 (.slice A25 n25 c25) (rl)) := LX32.out.below hb33
        have LY33 : Hid (Boos w33 (.slice A27 n27 c27) (rl)) := LY32.out.below hb33
        have f133 : Hid (Rowz w33 (.slice Af1 nf1 cf1) (natC fs)) := f132.out.below hb33
        have f233 : Hid (Rowz w33 (.slice Af2 nf2 cf2) (natC fs)) := f232.out.below hb33
        have S33 : Hid (SpBox w33 (w.heap.size) (p) (.slice A n c)) := S32.out.below hb33
        have T33 : Hid (SpBox w33 (w.heap.size + 1) (q) (.slice At nt ct)) := T32.out.below hb33
        have X33 : Hid (SpBox w33 (bX) (rp) (.slice A25 n25 c25)) := X32.out.below hb33
        have Y33 : Hid (SpBox w33 (bY) (rp) (.slice A27 n27 c27)) := Y32.out.below hb33
        clear hb33
        iterate 2 (refine sch_take ?_ rfl ?_ ?_; rotate_left; (focus (intro u hu; go_simp <;> rfl)); simp only [Act.put, List.setIfInBounds_toArray, List.set_cons_zero, List.set_cons_succ])
        refine sch_take (.agg #[.int .i64 (p), (.slice A n c)]) rfl (fun u hu => exec_loadS (SBox.below S33.out hu) Try.underlying24 spInfo _ rfl rfl) ?_
        simp only [Act.put, List.setIfInBounds_toArray, List.set_cons_zero, List.set_cons_succ]
        refine sch_take (.agg #[.int .i64 (p), (.slice A n c)]) rfl (fun u hu => exec_loadS (SBox.below S33.out hu) Try.underlying24 spInfo _ rfl rfl) ?_
        simp only [Act.put, List.setIfInBounds_toArray, List.set_cons_zero, List.set_cons_succ]
        refine sch_call rfl ?_
        intro K hK
        go_simp
        refine (HCN.out ▸ spCount_any w33 p _ l LS33.out HLL.out).mono ?_
        rintro e w34 ⟨rfl, hb34⟩
        go_wp2_with fail
        refine hK _ _ hb34 ?_
        clear hK K
        have HB34 : Hid (Below w.heap.size w w34) := HB33.out.trans (hb34.mono HB33.out.size)
        have LS34 : Hid (Boos w34 (.slice A n c) l) := LS33.out.below hb34
        have LT34 : Hid (Boos w34 (.slice At nt ct) l2) := LT33.out.below hb34
        have VB34 : Hid (Byt w34 (.slice Ab nb cb) b) := VB33.out.below hb34
        have LX34 : Hid (Boos w34 (.slice A25 n25 c25) (rl)) := LX33.out.below hb34
        have LY34 : Hid (Boos w34 (.slice A27 n27 c27) (rl)) := LY33.out.below hb34
        have S34 : Hid (SpBox w34 (w.heap.size) (p) (.slice A n c)) := S33.out.below hb34
        have T34 : Hid (SpBox w34 (w.heap.size + 1) (q) (.slice At nt ct)) := T33.out.below hb34
        have X34 : Hid (SpBox w34 (bX) (rp) (.slice A25 n25 c25)) := X33.out.below hb34
        have Y34 : Hid (SpBox w34 (bY) (rp) (.slice A27 n27 c27)) := Y33.out.below hb34
        clear hb34
        refine sch_call rfl ?_
        intro K hK
        go_simp
        refine (HFC.out ▸ r8Free_any w34 p _ l LS34.out HLL.out).mono ?_
        rintro e w35 ⟨fv, rfl, hf, hb35⟩
        go_wp2_with fail
        refine hK _ _ hb35 ?_
        clear hK K
        have HB35 : Hid (Below w.heap.size w w35) := HB34.out.trans (hb35.mono HB34.out.size)
        have LS35 : Hid (Boos w35 (.slice A n c) l) := LS34.out.below hb35
        have LT35 : Hid (Boos w35 (.slice At nt ct) l2) := LT34.out.below hb35
        have VB35 : Hid (Byt w35 (.slice Ab nb cb) b) := VB34.out.below hb35
        have LX35 : Hid (Boos w35 (.slice A25 n25 c25) (rl)) := LX34.out.below hb35
        have LY35 : Hid (Boos w35 (.slice A27 n27 c27) (rl)) := LY34.out.below hb35
        have S35 : Hid (SpBox w35 (w.heap.size) (p) (.slice A n c)) := S34.out.below hb35
        have T35 : Hid (SpBox w35 (w.heap.size + 1) (q) (.slice At nt ct)) := T34.out.below hb35
        have X35 : Hid (SpBox w35 (bX) (rp) (.slice A25 n25 c25)) := X34.out.below hb35
        have Y35 : Hid (SpBox w35 (bY) (rp) (.slice A27 n27 c27)) := Y34.out.below hb35
        obtain ⟨Afr, nfr, cfr, rfl, N3, _, _⟩ := hf.rowz.form
        obtain rfl : nfr = fn := (N3.out.trans (natC_len _)).trans HFN.out
        clear hf N3
        clear hb35
        iterate 4 (refine sch_take ?_ rfl ?_ ?_; rotate_left; (focus (intro u hu; go_simp <;> rfl)); simp only [Act.put, List.setIfInBounds_toArray, List.set_cons_zero, List.set_cons_succ])
        refine sch_take (.agg #[.int .i64 (p), (.slice A n c)]) rfl (fun u hu => exec_loadS (SBox.below S35.out hu) Try.underlying24 spInfo _ rfl rfl) ?_
        simp only [Act.put, List.setIfInBounds_toArray, List.set_cons_zero, List.set_cons_succ]
        refine sch_take (.agg #[.int .i64 (p), (.slice A n c)]) rfl (fun u hu => exec_loadS (SBox.below S35.out hu) Try.underlying24 spInfo _ rfl rfl) ?_
        simp only [Act.put, List.setIfInBounds_toArray, List.set_cons_zero, List.set_cons_succ]
        refine sch_call rfl ?_
        intro K hK
        go_simp
        refine (HCK.out ▸ spcheck_any w35 p _ l LS35.out HLL.out).mono ?_
        rintro e w36 ⟨rfl, hb36⟩
        go_wp2_with fail
        refine hK _ _ hb36 ?_
        clear hK K
        have HB36 : Hid (Below w.heap.size w w36) := HB35.out.trans (hb36.mono HB35.out.size)
        have LS36 : Hid (Boos w36 (.slice A n c) l) := LS35.out.below hb36
        have LT36 : Hid (Boos w36 (.slice At nt ct) l2) := LT35.out.below hb36
        have VB36 : Hid (Byt w36 (.slice Ab nb cb) b) := VB35.out.below hb36
        have LX36 : Hid (Boos w36 (.slice A25 n25 c25) (rl)) := LX35.out.below hb36
        have LY36 : Hid (Boos w36 (.slice A27 n27 c27) (rl)) := LY35.out.below hb36
        have S36 : Hid (SpBox w36 (w.heap.size) (p) (.slice A n c)) := S35.out.below hb36
        have T36 : Hid (SpBox w36 (w.heap.size + 1) (q) (.slice At nt ct)) := T35.out.below hb36
        have X36 : Hid (SpBox w36 (bX) (rp) (.slice A25 n25 c25)) := X35.out.below hb36
        have Y36 : Hid (SpBox w36 (bY) (rp) (.slice A27 n27 c27)) := Y35.out.below hb36
        clear hb36
        refine sch_call rfl ?_
        intro K hK
        go_simp
        refine (HCK.out ▸ r8check_any w36 p _ l LS36.out HLL.out).mono ?_
        rintro e w37 ⟨rfl, hb37⟩
        go_wp2_with fail
        refine hK _ _ hb37 ?_
        clear hK K
        have HB37 : Hid (Below w.heap.size w w37) := HB36.out.trans (hb37.mono HB36.out.size)
        have LS37 : Hid (Boos w37 (.slice A n c) l) := LS36.out.below hb37
        have LT37 : Hid (Boos w37 (.slice At nt ct) l2) := LT36.out.below hb37
        have VB37 : Hid (Byt w37 (.slice Ab nb cb) b) := VB36.out.below hb37
        have LX37 : Hid (Boos w37 (.slice A25 n25 c25) (rl)) := LX36.out.below hb37
        have LY37 : Hid (Boos w37 (.slice A27 n27 c27) (rl)) := LY36.out.below hb37
        have S37 : Hid (SpBox w37 (w.heap.size) (p) (.slice A n c)) := S36.out.below hb37
        have T37 : Hid (SpBox w37 (w.heap.size + 1) (q) (.slice At nt ct)) := T36.out.below hb37
        have X37 : Hid (SpBox w37 (bX) (rp) (.slice A25 n25 c25)) := X36.out.below hb37
        have Y37 : Hid (SpBox w37 (bY) (rp) (.slice A27 n27 c27)) := Y36.out.below hb37
        clear hb37
        iterate 3 (refine sch_take ?_ rfl ?_ ?_; rotate_left; (focus (intro u hu; go_simp <;> rfl)); simp only [Act.put, List.setIfInBounds_toArray, List.set_cons_zero, List.set_cons_succ])
        refine sch_take (.agg #[.int .i64 (p), (.slice A n c)]) rfl (fun u hu => exec_loadS (SBox.below S37.out hu) Try.underlying24 spInfo _ rfl rfl) ?_
        simp only [Act.put, List.setIfInBounds_toArray, List.set_cons_zero, List.set_cons_succ]
        refine sch_take (.agg #[.int .i64 (q), (.slice At nt ct)]) rfl (fun u hu => exec_loadS (SBox.below T37.out hu) Try.underlying24 spInfo _ rfl rfl) ?_
        simp only [Act.put, List.setIfInBounds_toArray, List.set_cons_zero, List.set_cons_succ]
        refine sch_take (.agg #[.int .i64 (p), (.slice A n c)]) rfl (fun u hu => exec_loadS (SBox.below S37.out hu) Try.underlying24 spInfo _ rfl rfl) ?_
        simp only [Act.put, List.setIfInBounds_toArray, List.set_cons_zero, List.set_cons_succ]
        refine sch_take (.agg #[.int .i64 (q), (.slice At nt ct)]) rfl (fun u hu => exec_loadS (SBox.below T37.out hu) Try.underlying24 spInfo _ rfl rfl) ?_
        simp only [Act.put, List.setIfInBounds_toArray, List.set_cons_zero, List.set_cons_succ]
        refine sch_call rfl ?_
        intro K hK
        go_simp
        refine (HSM.out ▸ spsame_any w37 p q _ _ l l2 LS37.out LT37.out).mono ?_
        rintro e w38 ⟨rfl, hb38⟩
        go_wp2_with fail
        refine hK _ _ hb38 ?_
        clear hK K
        have HB38 : Hid (Below w.heap.size w w38) := HB37.out.trans (hb38.mono HB37.out.size)
        have LS38 : Hid (Boos w38 (.slice A n c) l) := LS37.out.below hb38
        have LT38 : Hid (Boos w38 (.slice At nt ct) l2) := LT37.out.below hb38
        have VB38 : Hid (Byt w38 (.slice Ab nb cb) b) := VB37.out.below hb38
        have LX38 : Hid (Boos w38 (.slice A25 n25 c25) (rl)) := LX37.out.below hb38
        have LY38 : Hid (Boos w38 (.slice A27 n27 c27) (rl)) := LY37.out.below hb38
        have S38 : Hid (SpBox w38 (w.heap.size) (p) (.slice A n c)) := S37.out.below hb38
        have T38 : Hid (SpBox w38 (w.heap.size + 1) (q) (.slice At nt ct)) := T37.out.below hb38
        have X38 : Hid (SpBox w38 (bX) (rp) (.slice A25 n25 c25)) := X37.out.below hb38
        have Y38 : Hid (SpBox w38 (bY) (rp) (.slice A27 n27 c27)) := Y37.out.below hb38
        clear hb38
        refine sch_call rfl ?_
        intro K hK
        go_simp
        refine (HSM.out ▸ kitspace_any w38 p q _ _ l l2 LS38.out LT38.out).mono ?_
        rintro e w39 ⟨rfl, hb39⟩
        go_wp2_with fail
        refine hK _ _ hb39 ?_
        clear hK K
        have HB39 : Hid (Below w.heap.size w w39) := HB38.out.trans (hb39.mono HB38.out.size)
        have LS39 : Hid (Boos w39 (.slice A n c) l) := LS38.out.below hb39
        have LT39 : Hid (Boos w39 (.slice At nt ct) l2) := LT38.out.below hb39
        have VB39 : Hid (Byt w39 (.slice Ab nb cb) b) := VB38.out.below hb39
        have LX39 : Hid (Boos w39 (.slice A25 n25 c25) (rl)) := LX38.out.below hb39
        have LY39 : Hid (Boos w39 (.slice A27 n27 c27) (rl)) := LY38.out.below hb39
        have S39 : Hid (SpBox w39 (w.heap.size) (p) (.slice A n c)) := S38.out.below hb39
        have T39 : Hid (SpBox w39 (w.heap.size + 1) (q) (.slice At nt ct)) := T38.out.below hb39
        have X39 : Hid (SpBox w39 (bX) (rp) (.slice A25 n25 c25)) := X38.out.below hb39
        have Y39 : Hid (SpBox w39 (bY) (rp) (.slice A27 n27 c27)) := Y38.out.below hb39
        clear hb39
        iterate 3 (refine sch_take ?_ rfl ?_ ?_; rotate_left; (focus (intro u hu; go_simp <;> rfl)); simp only [Act.put, List.setIfInBounds_toArray, List.set_cons_zero, List.set_cons_succ])
        refine sch_nil ?_
        go_wp2_with fail
        go_ret
        exact ⟨rfl, HB39.out⟩

set_option maxRecDepth 100000 in
theorem lifted (os : Os) (started : os.Started) (H : Type) (enc : TypeId × Value → H) :
    ReturnsInHanded {} Try.checked os 4 .any (Rows.spaceCallsSpec.pre6 enc Try.prog Try.f4 Rows.spaceCallsRow.domain false) (Rows.spaceCallsSpec.post enc Try.prog Try.f4 false true false false) := by
  refine returnsInHanded_of_change (C := Try.checked) ownKnobs started (by kernel_rfl) Try.func4
    (ChangeSpec.witness6 (enc := enc) (C := Try.checked) false ⟨#[], #[.agg #[.int .i64 0, .slice none 0 0], .agg #[.int .i64 0, .slice none 0 0], .int .i64 0, .slice none 0 0], []⟩ 8 (by kernel_rfl) (by kernel_rfl) (by kernel_rfl) (by kernel_rfl)) ?_
  intro W base args ds gs before hval0 hW hcnd _
  have hval : ∀ (j : Nat) t v, Try.f4.params[j]? = some t → args[j]? = some v → Value.okWide Try.prog W .any base t v := hval0
  have hW' := hW
  obtain ⟨p, q, hA0, hV, rfl, hfz, hnd⟩ := hW
  have hA : DataW.TrodAll enc Try.prog W 0 (fun _ => true) true Try.f4.params.toList args.toList ds p := hA0
  rw [Try.params4] at hA hval
  obtain ⟨v0, vs0, d0, ds0, p0, q0, hargs, rfl, rfl, h0, r0⟩ := trodAll_cons hA
  obtain ⟨v1, vs1, d1, ds1, p1, q1, rfl, rfl, rfl, h1, r1⟩ := trodAll_cons r0
  obtain ⟨v2, vs2, d2, ds2, p2, q2, rfl, rfl, rfl, h2, r2⟩ := trodAll_cons r1
  obtain ⟨v3, vs3, d3, ds3, p3, q3, rfl, rfl, rfl, h3, r3⟩ := trodAll_cons r2
  obtain ⟨rfl, rfl, rfl⟩ := trodAll_nil r3
  obtain rfl : args = #[v0, v1, v2, v3] := by cases args; simp_all
  obtain ⟨rfl, rfl⟩ := trodVars_none hV
  have k0 := h0
  have lt0 : ∀ x ∈ p0, x.block < W.heap.size := by obtain ⟨m, hm⟩ := k0; exact DataW.trod_lt m _ _ _ hm
  obtain ⟨sp0, sv0, sl0, rfl, b0, sb0⟩ := open_space (hval 0 24 v0 rfl rfl) h0
  have k1 := h1
  have lt1 : ∀ x ∈ p1, x.block < W.heap.size := by obtain ⟨m, hm⟩ := k1; exact DataW.trod_lt m _ _ _ hm
  obtain ⟨sp1, sv1, sl1, rfl, b1, sb1⟩ := open_space (hval 1 24 v1 rfl rfl) h1
  obtain ⟨a2, rfl, rfl, rfl, w2⟩ := open_int Try.underlying3 (hval 2 3 v2 rfl rfl) h2
  have b2 := open_i64 w2
  have k3 := h3
  have lt3 : ∀ x ∈ p3, x.block < W.heap.size := by obtain ⟨m, hm⟩ := k3; exact DataW.trod_lt m _ _ _ hm
  obtain ⟨l3, b3⟩ := open_bytes (hval 3 36 v3 rfl rfl) h3
  clear hA0 hval0
  refine (walk W sp0 sv0 sl0 sp1 sv1 sl1 a2 v3 l3 b0 sb0 b1 sb1 b2 b3).mono fun e W' ⟨he, bel⟩ => ?_
  subst he
  exact ⟨_, rfl, _, _, _, [], _, [], hW', trodAll_mk1 (shut_bool Try.underlying4 _), (trodAll_cons_mk (Below.trod laidOuts (by kernel_rfl) (of_decide_eq_true (by kernel_rfl)) k0 bel lt0) (trodAll_cons_mk (Below.trod laidOuts (by kernel_rfl) (of_decide_eq_true (by kernel_rfl)) k1 bel lt1) (trodAll_cons_mk (shut_int Try.underlying3 w2) (trodAll_cons_mk (Below.trod laidOuts (by kernel_rfl) (of_decide_eq_true (by kernel_rfl)) k3 bel lt3) trodAll_mk0)))), rfl, bel.frame _, fun h => by cases h⟩

theorem over : Rows.spaceCallsRow.holds Try.pinned (OpenSpec.ofChange Rows.spaceCallsSpec) :=
  OpenClaim.holds_of_wide 4 Try.f4 rfl rfl rfl rfl rfl rfl rfl ⟨rfl, rfl, rfl, rfl, rfl⟩ rfl rfl rfl rfl rfl (by kernel_rfl) Try.func4 (by kernel_rfl)
    (of_decide_eq_true (by kernel_rfl)) (by unfold Func.isWrapper; first | (rw [if_pos (by decide +kernel)]; kernel_rfl) | (rw [if_neg (by decide +kernel)]; exact ⟨rfl, rfl⟩))
    (fun os started H enc _ => lifted os started H enc)

theorem proved : Rows.SpaceCallsSaid := over
#print axioms proved
end Go.Proofs.Ytncjobeahpjnpaa.spaceCalls

