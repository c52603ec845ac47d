/-
  The statement SpaceBack: a space is its bytes, and no other bytes are. Conditions: none.
-/
import Derived.Test.YtncjobeahpjnpaaSpK
namespace Go.Proofs.Ytncjobeahpjnpaa.spaceBack
open Go.ChangeShapes Go.WideShapes Go.ChangeAt Go.RowKit Go.Maps
set_option maxRecDepth 100000
set_option linter.unusedVariables false

set_option maxRecDepth 100000 in
set_option maxHeartbeats 16000000 in
theorem walk (w : World) (p : Int) (v : Value) (l : List Bool) (vb : Value) (b : List UInt8) (hv : Boos w v l) (hp : -9223372036854775808 ≤ p ∧ p ≤ 9223372036854775807) (hb : Byt w vb b) :
    Calls Try.prog 6 #[.agg #[.int .i64 p, v], vb] w fun e w' => e = .returned (.bool true) ∧ Below w.heap.size w w' := by
  obtain ⟨w0, hw0⟩ : ∃ w0, w.alloc (.cells #[.int .i64 p, v] 24) = w0 := ⟨_, rfl⟩
  have hb0 : Below w.heap.size w w0 := hw0 ▸ below_new w _
  have hS : SpBox w0 w.heap.size p v := hw0 ▸ SBox.new w 24 [.int .i64 p, v]
  obtain ⟨A, n, c, rfl, N, hnc, hcm⟩ := hv.form
  obtain ⟨Ab, nb, cb, rfl, NB, hnb, hcb⟩ := hb.form
  have LS0 : Hid (Boos w0 (.slice A n c) l) := hv.below hb0
  have V0 : Hid (Byt w0 (.slice Ab nb cb) b) := hb.below hb0
  have S0 := Lib.hid hS
  have HB0 := Lib.hid hb0
  have HW0 := Lib.hid hw0
  have HVW := Lib.hid hv
  obtain ⟨i0, hi0, hz0, hz1, hz2⟩ := info_parts uinfo
  clear hv hb hb0 hS hw0 hp
  by_cases hn : (300 : Int) < (n : Int)
  · clear hnb hcb NB
    go_enter Try.func6, Try.ntmps6
    go_wp2_with fail
    rw [HW0.out]
    refine (lives8_any w0).mono ?_
    rintro e w1 ⟨rfl, hb1⟩
    have HB1 : Hid (Below w.heap.size w w1) := HB0.out.trans (hb1.mono HB0.out.size)
    have LS1 : Hid (Boos w1 (.slice A n c) l) := LS0.out.below hb1
    have V1 : Hid (Byt w1 (.slice Ab nb cb) b) := V0.out.below hb1
    have S1 : Hid (SpBox w1 (w.heap.size) (p) (.slice A n c)) := S0.out.below hb1
    clear hb1
    have pS := S1.out.c0
    have rS := S1.out.c1
    go_wp2_with fail
    clear pS rS
    go_ret
    exact ⟨rfl, HB1.out⟩
  · by_cases hm : (1000 : Int) < (nb : Int)
    · clear NB
      go_enter Try.func6, Try.ntmps6
      go_wp2_with fail
      rw [HW0.out]
      refine (lives8_any w0).mono ?_
      rintro e w1 ⟨rfl, hb1⟩
      have HB1 : Hid (Below w.heap.size w w1) := HB0.out.trans (hb1.mono HB0.out.size)
      have LS1 : Hid (Boos w1 (.slice A n c) l) := LS0.out.below hb1
      have V1 : Hid (Byt w1 (.slice Ab nb cb) b) := V0.out.below hb1
      have S1 : Hid (SpBox w1 (w.heap.size) (p) (.slice A n c)) := S0.out.below hb1
      clear hb1
      have pS := S1.out.c0
      have rS := S1.out.c1
      go_wp2_with fail
      clear pS rS
      go_ret
      exact ⟨rfl, HB1.out⟩
    · have HN : Hid (l.length ≤ 300 ∧ b.length ≤ 1000) := ⟨by have : n = l.length := N.out; omega, by have : nb = b.length := NB.out; omega⟩
      have HLL : Hid (l.length ≤ 70368744177664) := by have := HN.out; show _ ≤ _; omega
      have HSL : Hid ((spB p l).length ≤ 70368744177664) := by have := HN.out; show _ ≤ _; rw [spB_len]; unfold spM; omega
      have HR0 := Lib.hid (spRead_one (b := b))
      rcases spRead_err b with hr | hr
      · have hone := HR0.out hr
        generalize hq : spRead b = q at *
        obtain ⟨tp, tl, te⟩ := q
        simp only at hr hone
        subst hr
        have HRD := Lib.hid hq
        have HBT := Lib.hid hone
        have HTL : Hid (tl.length ≤ 70368744177664) := by
          by_cases hk : spOk tp tl
          · have := spOk_len hk
            show _ ≤ _
            omega
          · unfold spBytes at hone
            rw [if_neg hk] at hone
            cases hone
        clear HR0 hq hone
        by_cases hok : spOk p l
        · have HBS : Hid (spBytes p l = (spB p l, 0)) := if_pos hok
          have HR1 : Hid (spRead (spB p l) = (p, l, 0)) := spRead_B hok
          have HR2 : Hid (spRead ((spB p l).take ((spB p l).length - 1)) = (0, [], 4)) := spRead_cut hok
          have HR3 : Hid (spRead (spB p l ++ [0]) = (0, [], 4)) := spRead_more hok
          clear hok
          go_enter Try.func6, Try.ntmps6
          go_wp2_with fail
          rw [HW0.out]
          refine (lives8_any w0).mono ?_
          rintro e w1 ⟨rfl, hb1⟩
          have HB1 : Hid (Below w.heap.size w w1) := HB0.out.trans (hb1.mono HB0.out.size)
          have LS1 : Hid (Boos w1 (.slice A n c) l) := LS0.out.below hb1
          have V1 : Hid (Byt w1 (.slice Ab nb cb) b) := V0.out.below hb1
          have S1 : Hid (SpBox w1 (w.heap.size) (p) (.slice A n c)) := S0.out.below hb1
          clear hb1
          have pS := S1.out.c0
          have rS := S1.out.c1
          go_wp2_with fail
          clear pS rS
          refine (kitown_any w1 (.slice Ab nb cb) b V1.out (by have := HN.out; omega)).mono ?_
          rintro e w2 ⟨o2, rfl, ho2, hb2⟩
          have HB2 : Hid (Below w.heap.size w w2) := HB1.out.trans (hb2.mono HB1.out.size)
          have LS2 : Hid (Boos w2 (.slice A n c) l) := LS1.out.below hb2
          have V2 : Hid (Byt w2 (.slice Ab nb cb) b) := V1.out.below hb2
          have S2 : Hid (SpBox w2 (w.heap.size) (p) (.slice A n c)) := S1.out.below hb2
          have O2 := Lib.hid ho2.byt
          clear ho2
          clear hb2
          have pS := S2.out.c0
          have rS := S2.out.c1
          go_wp2_with fail
          clear pS rS
          refine (HRD.out ▸ spRead_any w2 o2 b O2.out (by have := HN.out; omega)).mono ?_
          rintro e w3 ⟨x3, rfl, hx3, hb3⟩
          obtain ⟨A3, n3, c3, rfl, _, _, _⟩ := hx3.boos.form
          have HB3 : Hid (Below w.heap.size w w3) := HB2.out.trans (hb3.mono HB2.out.size)
          have LS3 : Hid (Boos w3 (.slice A n c) l) := LS2.out.below hb3
          have V3 : Hid (Byt w3 (.slice Ab nb cb) b) := V2.out.below hb3
          have S3 : Hid (SpBox w3 (w.heap.size) (p) (.slice A n c)) := S2.out.below hb3
          obtain ⟨w4, hw4⟩ : ∃ u, (w3.alloc (.cells #[.int .i64 (tp), .slice A3 n3 c3] 24)) = u := ⟨_, rfl⟩
          have HW4 := Lib.hid hw4
          have hb4 : Below w3.heap.size w3 w4 := hw4 ▸ below_new _ _
          have HB4 : Hid (Below w.heap.size w w4) := HB3.out.trans (hb4.mono HB3.out.size)
          have LS4 : Hid (Boos w4 (.slice A n c) l) := LS3.out.below hb4
          have V4 : Hid (Byt w4 (.slice Ab nb cb) b) := V3.out.below hb4
          have S4 : Hid (SpBox w4 (w.heap.size) (p) (.slice A n c)) := S3.out.below hb4
          have T4 : Hid (SpBox w4 w3.heap.size (tp) (.slice A3 n3 c3)) := hw4 ▸ SBox.new w3 24 [.int .i64 (tp), .slice A3 n3 c3]
          have LT4 : Hid (Boos w4 (.slice A3 n3 c3) (tl)) := hw4 ▸ Rowz.alloc hx3.boos _
          clear hx3 hb3 hw4 hb4
          have pS : (w3.alloc (.cells #[.int .i64 (tp), .slice A3 n3 c3] 24)).cell? ⟨w.heap.size, 0, none⟩ = some (.int .i64 (p)) := by rw [HW4.out]; exact S4.out.c0
          have rS : (w3.alloc (.cells #[.int .i64 (tp), .slice A3 n3 c3] 24)).cell? ⟨w.heap.size, 1, none⟩ = some (.slice A n c) := by rw [HW4.out]; exact S4.out.c1
          go_wp2_with fail
          rw [HW4.out]
          clear pS rS
          refine (HBT.out ▸ spBytes_any w4 tp _ tl LT4.out HTL.out).mono ?_
          rintro e w5 ⟨x5, rfl, hx5, hb5⟩
          have HB5 : Hid (Below w.heap.size w w5) := HB4.out.trans (hb5.mono HB4.out.size)
          have LS5 : Hid (Boos w5 (.slice A n c) l) := LS4.out.below hb5
          have V5 : Hid (Byt w5 (.slice Ab nb cb) b) := V4.out.below hb5
          have LT5 : Hid (Boos w5 (.slice A3 n3 c3) (tl)) := LT4.out.below hb5
          have S5 : Hid (SpBox w5 (w.heap.size) (p) (.slice A n c)) := S4.out.below hb5
          have T5 : Hid (SpBox w5 (w3.heap.size) (tp) (.slice A3 n3 c3)) := T4.out.below hb5
          have X5 := Lib.hid hx5.byt
          clear hx5
          have t1 := text_of X5.out
          have t2 := text_of V5.out
          clear hb5
          have pS := S5.out.c0
          have rS := S5.out.c1
          have pT := T5.out.c0
          have rT := T5.out.c1
          go_wp2_with fail
          clear pS rS pT rT
          clear t1 t2
          refine (HBS.out ▸ spBytes_any w5 p _ l LS5.out HLL.out).mono ?_
          rintro e w6 ⟨y6, rfl, hy6, hb6⟩
          have HB6 : Hid (Below w.heap.size w w6) := HB5.out.trans (hb6.mono HB5.out.size)
          have LS6 : Hid (Boos w6 (.slice A n c) l) := LS5.out.below hb6
          have V6 : Hid (Byt w6 (.slice Ab nb cb) b) := V5.out.below hb6
          have LT6 : Hid (Boos w6 (.slice A3 n3 c3) (tl)) := LT5.out.below hb6
          have S6 : Hid (SpBox w6 (w.heap.size) (p) (.slice A n c)) := S5.out.below hb6
          have T6 : Hid (SpBox w6 (w3.heap.size) (tp) (.slice A3 n3 c3)) := T5.out.below hb6
          obtain ⟨Ay, ny, cy, rfl, NY, hny, hcy⟩ := hy6.byt.form
          have Y6 : Hid (Byt w6 (.slice Ay ny cy) (spB p l)) := hy6.byt
          clear hy6
          clear hb6
          have pS := S6.out.c0
          have rS := S6.out.c1
          have pT := T6.out.c0
          have rT := T6.out.c1
          go_wp2_with fail
          clear pS rS pT rT
          refine (kitown_any w6 _ _ Y6.out HSL.out).mono ?_
          rintro e w7 ⟨o7, rfl, ho7, hb7⟩
          have HB7 : Hid (Below w.heap.size w w7) := HB6.out.trans (hb7.mono HB6.out.size)
          have LS7 : Hid (Boos w7 (.slice A n c) l) := LS6.out.below hb7
          have V7 : Hid (Byt w7 (.slice Ab nb cb) b) := V6.out.below hb7
          have LT7 : Hid (Boos w7 (.slice A3 n3 c3) (tl)) := LT6.out.below hb7
          have Y7 : Hid (Byt w7 (.slice Ay ny cy) (spB p l)) := Y6.out.below hb7
          have S7 : Hid (SpBox w7 (w.heap.size) (p) (.slice A n c)) := S6.out.below hb7
          have T7 : Hid (SpBox w7 (w3.heap.size) (tp) (.slice A3 n3 c3)) := T6.out.below hb7
          have O7 := Lib.hid ho7.byt
          clear ho7
          clear hb7
          have pS := S7.out.c0
          have rS := S7.out.c1
          have pT := T7.out.c0
          have rT := T7.out.c1
          go_wp2_with fail
          clear pS rS pT rT
          refine (HR1.out ▸ spRead_any w7 o7 (spB p l) O7.out HSL.out).mono ?_
          rintro e w8 ⟨x8, rfl, hx8, hb8⟩
          obtain ⟨A8, n8, c8, rfl, _, _, _⟩ := hx8.boos.form
          have HB8 : Hid (Below w.heap.size w w8) := HB7.out.trans (hb8.mono HB7.out.size)
          have LS8 : Hid (Boos w8 (.slice A n c) l) := LS7.out.below hb8
          have V8 : Hid (Byt w8 (.slice Ab nb cb) b) := V7.out.below hb8
          have LT8 : Hid (Boos w8 (.slice A3 n3 c3) (tl)) := LT7.out.below hb8
          have Y8 : Hid (Byt w8 (.slice Ay ny cy) (spB p l)) := Y7.out.below hb8
          have S8 : Hid (SpBox w8 (w.heap.size) (p) (.slice A n c)) := S7.out.below hb8
          have T8 : Hid (SpBox w8 (w3.heap.size) (tp) (.slice A3 n3 c3)) := T7.out.below hb8
          have HX8 := Lib.hid hx8
          have HNB : Hid ((Value.slice A8 n8 c8).ownBlock ≠ some w3.heap.size) := fun hk => by have := (World.ownsRow.lt HX8.out _ hk).1; have := T7.out.lt; omega
          have HTA : Hid (w.heap.size < w3.heap.size) := S3.out.lt
          have hys : ny = (spB p l).length := NY.out
          have hle : 0 < ny := by rw [hys, spB_len]; omega
          obtain ⟨A2, n2, c2, hcut, bcut, _, _, _⟩ := Y8.out.uptorun 36 elemByte sizeByte (ny - 1) (by omega) .i64
          have hcast : ((ny - 1 : Nat) : Int) = (ny : Int) - 1 := by omega
          rw [hcast] at hcut
          rw [hys] at bcut
          have BC := Lib.hid bcut
          clear hx8 hb8 hys bcut hcast
          go_wp2_with (refine wpList_storeS T8.out spInfo rfl _ _ rfl rfl (ds := [.int .i64 p, .slice A8 n8 c8]) rfl rfl (one_sp _ _ _ _) ?_; intro w9 hs hg hz
                       have HB9 : Hid (Below w.heap.size w w9) := HB8.out.grown hg HB8.out.size (fun k e => by cases e; have := HTA.out; omega)
                       have S9 : Hid (SpBox w9 w.heap.size p (.slice A n c)) := S8.out.grown hg (by have := HTA.out; omega)
                       have T9 : Hid (SpBox w9 w3.heap.size p (.slice A8 n8 c8)) := hs
                       have LT9 : Hid (Boos w9 (.slice A8 n8 c8) l) := Rowz.grown HX8.out.boos hg (fun k hk e => HNB.out (by rw [hk, e]))
                       have LS9 : Hid (Boos w9 (.slice A n c) l) := HVW.out.below HB9.out
                       have Y9 : Hid (Byt w9 (.slice Ay ny cy) (spB p l)) := Y8.out.spbox T8.out hg
                       have C9 : Hid (Byt w9 (.slice A2 n2 c2) ((spB p l).take ((spB p l).length - 1))) := BC.out.spbox T8.out hg
                       clear hs hg hz)
          refine (HR2.out ▸ spRead_any w9 _ _ C9.out (by have := HSL.out; rw [List.length_take]; omega)).mono ?_
          rintro e w10 ⟨x10, rfl, hx10, hb10⟩
          obtain ⟨A10, n10, c10, rfl, _, _, _⟩ := hx10.boos.form
          have HB10 : Hid (Below w.heap.size w w10) := HB9.out.trans (hb10.mono HB9.out.size)
          have LS10 : Hid (Boos w10 (.slice A n c) l) := LS9.out.below hb10
          have LT10 : Hid (Boos w10 (.slice A8 n8 c8) l) := LT9.out.below hb10
          have Y10 : Hid (Byt w10 (.slice Ay ny cy) (spB p l)) := Y9.out.below hb10
          have S10 : Hid (SpBox w10 (w.heap.size) (p) (.slice A n c)) := S9.out.below hb10
          have T10 : Hid (SpBox w10 (w3.heap.size) (p) (.slice A8 n8 c8)) := T9.out.below hb10
          obtain ⟨w11, hw11⟩ : ∃ u, (w10.alloc (.cells #[.int .i64 (0), .slice A10 n10 c10] 24)) = u := ⟨_, rfl⟩
          have HW11 := Lib.hid hw11
          have hb11 : Below w10.heap.size w10 w11 := hw11 ▸ below_new _ _
          have HB11 : Hid (Below w.heap.size w w11) := HB10.out.trans (hb11.mono HB10.out.size)
          have LS11 : Hid (Boos w11 (.slice A n c) l) := LS10.out.below hb11
          have LT11 : Hid (Boos w11 (.slice A8 n8 c8) l) := LT10.out.below hb11
          have Y11 : Hid (Byt w11 (.slice Ay ny cy) (spB p l)) := Y10.out.below hb11
          have S11 : Hid (SpBox w11 (w.heap.size) (p) (.slice A n c)) := S10.out.below hb11
          have T11 : Hid (SpBox w11 (w3.heap.size) (p) (.slice A8 n8 c8)) := T10.out.below hb11
          have U11 : Hid (SpBox w11 w10.heap.size (0) (.slice A10 n10 c10)) := hw11 ▸ SBox.new w10 24 [.int .i64 (0), .slice A10 n10 c10]
          have LU11 : Hid (Boos w11 (.slice A10 n10 c10) ([])) := hw11 ▸ Rowz.alloc hx10.boos _
          clear hx10 hb10 hw11 hb11
          have pS : (w10.alloc (.cells #[.int .i64 (0), .slice A10 n10 c10] 24)).cell? ⟨w.heap.size, 0, none⟩ = some (.int .i64 (p)) := by rw [HW11.out]; exact S11.out.c0
          have rS : (w10.alloc (.cells #[.int .i64 (0), .slice A10 n10 c10] 24)).cell? ⟨w.heap.size, 1, none⟩ = some (.slice A n c) := by rw [HW11.out]; exact S11.out.c1
          have pT : (w10.alloc (.cells #[.int .i64 (0), .slice A10 n10 c10] 24)).cell? ⟨w3.heap.size, 0, none⟩ = some (.int .i64 (p)) := by rw [HW11.out]; exact T11.out.c0
          have rT : (w10.alloc (.cells #[.int .i64 (0), .slice A10 n10 c10] 24)).cell? ⟨w3.heap.size, 1, none⟩ = some (.slice A8 n8 c8) := by rw [HW11.out]; exact T11.out.c1
          go_wp2_with fail
          rw [HW11.out]
          clear pS rS pT rT
          refine (kitown_any w11 _ _ Y11.out HSL.out).mono ?_
          rintro e w12 ⟨o12, rfl, ho12, hb12⟩
          have HB12 : Hid (Below w.heap.size w w12) := HB11.out.trans (hb12.mono HB11.out.size)
          have LS12 : Hid (Boos w12 (.slice A n c) l) := LS11.out.below hb12
          have LT12 : Hid (Boos w12 (.slice A8 n8 c8) l) := LT11.out.below hb12
          have Y12 : Hid (Byt w12 (.slice Ay ny cy) (spB p l)) := Y11.out.below hb12
          have S12 : Hid (SpBox w12 (w.heap.size) (p) (.slice A n c)) := S11.out.below hb12
          have T12 : Hid (SpBox w12 (w3.heap.size) (p) (.slice A8 n8 c8)) := T11.out.below hb12
          have O12 := Lib.hid ho12
          have HKN := Lib.hid hb12
          have HLK : Hid (w11.heap.size ≤ w12.heap.size) := hb12.size
          clear ho12
          clear hb12
          go_wp2_with (at_builtin; refine wpList_app _ rfl (.tmp 74) (.tmp 75) _ rfl w11.heap.size 5 i0 _ Try.underlying36 hi0 hz0 hz1 hz2 rfl _ (spB p l) rfl (World.ownsRow.alloc O12.out _) (.slice (some ⟨w12.heap.size, 0, none⟩) 1 1) [0] rfl (Byt.lit1 _ _ _ _ _ rfl) (by have := HSL.out; simp only [List.length_cons, List.length_nil]; omega) (by have := HLK.out; simp; omega) ?_; intro v13 w13 hown hgr hat
                       have hbk : Below w11.heap.size w11 w13 := below_own (HKN.out.alloc HKN.out.size _) (by have := HKN.out.size; simp; omega) (World.ownsRow.alloc O12.out _) hgr
                       have O13 := Lib.hid hown.byt
                       have HBK := Lib.hid hbk
                       clear hown hgr hat hbk)
          have HB13 : Hid (Below w.heap.size w w13) := HB11.out.trans (HBK.out.mono HB11.out.size)
          have LS13 : Hid (Boos w13 (.slice A n c) l) := LS11.out.below HBK.out
          have LT13 : Hid (Boos w13 (.slice A8 n8 c8) l) := LT11.out.below HBK.out
          have Y13 : Hid (Byt w13 (.slice Ay ny cy) (spB p l)) := Y11.out.below HBK.out
          have S13 : Hid (SpBox w13 (w.heap.size) (p) (.slice A n c)) := S11.out.below HBK.out
          have T13 : Hid (SpBox w13 (w3.heap.size) (p) (.slice A8 n8 c8)) := T11.out.below HBK.out
          refine (HR3.out ▸ spRead_any w13 _ _ O13.out (by have := HSL.out; rw [List.length_append]; simp; have := HN.out; rw [spB_len]; unfold spM; omega)).mono ?_
          rintro e w14 ⟨x14, rfl, hx14, hb14⟩
          obtain ⟨A14, n14, c14, rfl, _, _, _⟩ := hx14.boos.form
          have HB14 : Hid (Below w.heap.size w w14) := HB13.out.trans (hb14.mono HB13.out.size)
          have LS14 : Hid (Boos w14 (.slice A n c) l) := LS13.out.below hb14
          have LT14 : Hid (Boos w14 (.slice A8 n8 c8) l) := LT13.out.below hb14
          have Y14 : Hid (Byt w14 (.slice Ay ny cy) (spB p l)) := Y13.out.below hb14
          have S14 : Hid (SpBox w14 (w.heap.size) (p) (.slice A n c)) := S13.out.below hb14
          have T14 : Hid (SpBox w14 (w3.heap.size) (p) (.slice A8 n8 c8)) := T13.out.below hb14
          obtain ⟨w15, hw15⟩ : ∃ u, (w14.alloc (.cells #[.int .i64 (0), .slice A14 n14 c14] 24)) = u := ⟨_, rfl⟩
          have HW15 := Lib.hid hw15
          have hb15 : Below w14.heap.size w14 w15 := hw15 ▸ below_new _ _
          have HB15 : Hid (Below w.heap.size w w15) := HB14.out.trans (hb15.mono HB14.out.size)
          have LS15 : Hid (Boos w15 (.slice A n c) l) := LS14.out.below hb15
          have LT15 : Hid (Boos w15 (.slice A8 n8 c8) l) := LT14.out.below hb15
          have Y15 : Hid (Byt w15 (.slice Ay ny cy) (spB p l)) := Y14.out.below hb15
          have S15 : Hid (SpBox w15 (w.heap.size) (p) (.slice A n c)) := S14.out.below hb15
          have T15 : Hid (SpBox w15 (w3.heap.size) (p) (.slice A8 n8 c8)) := T14.out.below hb15
          have U15 : Hid (SpBox w15 w14.heap.size (0) (.slice A14 n14 c14)) := hw15 ▸ SBox.new w14 24 [.int .i64 (0), .slice A14 n14 c14]
          have LU15 : Hid (Boos w15 (.slice A14 n14 c14) ([])) := hw15 ▸ Rowz.alloc hx14.boos _
          clear hx14 hb14 hw15 hb15
          have pS : (w14.alloc (.cells #[.int .i64 (0), .slice A14 n14 c14] 24)).cell? ⟨w.heap.size, 0, none⟩ = some (.int .i64 (p)) := by rw [HW15.out]; exact S15.out.c0
          have rS : (w14.alloc (.cells #[.int .i64 (0), .slice A14 n14 c14] 24)).cell? ⟨w.heap.size, 1, none⟩ = some (.slice A n c) := by rw [HW15.out]; exact S15.out.c1
          have pT : (w14.alloc (.cells #[.int .i64 (0), .slice A14 n14 c14] 24)).cell? ⟨w3.heap.size, 0, none⟩ = some (.int .i64 (p)) := by rw [HW15.out]; exact T15.out.c0
          have rT : (w14.alloc (.cells #[.int .i64 (0), .slice A14 n14 c14] 24)).cell? ⟨w3.heap.size, 1, none⟩ = some (.slice A8 n8 c8) := by rw [HW15.out]; exact T15.out.c1
          go_wp2_with fail
          rw [HW15.out]
          clear pS rS pT rT
          refine (dec_same p l ▸ spsame_any w15 p p _ _ l l LS15.out LT15.out).mono ?_
          rintro e w16 ⟨rfl, hb16⟩
          have HB16 : Hid (Below w.heap.size w w16) := HB15.out.trans (hb16.mono HB15.out.size)
          have LS16 : Hid (Boos w16 (.slice A n c) l) := LS15.out.below hb16
          have LT16 : Hid (Boos w16 (.slice A8 n8 c8) l) := LT15.out.below hb16
          have Y16 : Hid (Byt w16 (.slice Ay ny cy) (spB p l)) := Y15.out.below hb16
          have LU16 : Hid (Boos w16 (.slice A14 n14 c14) ([])) := LU15.out.below hb16
          have S16 : Hid (SpBox w16 (w.heap.size) (p) (.slice A n c)) := S15.out.below hb16
          have T16 : Hid (SpBox w16 (w3.heap.size) (p) (.slice A8 n8 c8)) := T15.out.below hb16
          have U16 : Hid (SpBox w16 (w14.heap.size) (0) (.slice A14 n14 c14)) := U15.out.below hb16
          clear hb16
          have pS := S16.out.c0
          have rS := S16.out.c1
          have pT := T16.out.c0
          have rT := T16.out.c1
          have pU := U16.out.c0
          have rU := U16.out.c1
          go_wp2_with fail
          clear pS rS pT rT pU rU
          go_ret
          exact ⟨rfl, HB16.out⟩
        · have HBS : Hid (spBytes p l = ([], 2)) := if_neg hok
          have HCS : Hid ((if spOk p l then (0 : Int) else 2) = 2) := if_neg hok
          clear hok
          go_enter Try.func6, Try.ntmps6
          go_wp2_with fail
          rw [HW0.out]
          refine (lives8_any w0).mono ?_
          rintro e w1 ⟨rfl, hb1⟩
          have HB1 : Hid (Below w.heap.size w w1) := HB0.out.trans (hb1.mono HB0.out.size)
          have LS1 : Hid (Boos w1 (.slice A n c) l) := LS0.out.below hb1
          have V1 : Hid (Byt w1 (.slice Ab nb cb) b) := V0.out.below hb1
          have S1 : Hid (SpBox w1 (w.heap.size) (p) (.slice A n c)) := S0.out.below hb1
          clear hb1
          have pS := S1.out.c0
          have rS := S1.out.c1
          go_wp2_with fail
          clear pS rS
          refine (kitown_any w1 (.slice Ab nb cb) b V1.out (by have := HN.out; omega)).mono ?_
          rintro e w2 ⟨o2, rfl, ho2, hb2⟩
          have HB2 : Hid (Below w.heap.size w w2) := HB1.out.trans (hb2.mono HB1.out.size)
          have LS2 : Hid (Boos w2 (.slice A n c) l) := LS1.out.below hb2
          have V2 : Hid (Byt w2 (.slice Ab nb cb) b) := V1.out.below hb2
          have S2 : Hid (SpBox w2 (w.heap.size) (p) (.slice A n c)) := S1.out.below hb2
          have O2 := Lib.hid ho2.byt
          clear ho2
          clear hb2
          have pS := S2.out.c0
          have rS := S2.out.c1
          go_wp2_with fail
          clear pS rS
          refine (HRD.out ▸ spRead_any w2 o2 b O2.out (by have := HN.out; omega)).mono ?_
          rintro e w3 ⟨x3, rfl, hx3, hb3⟩
          obtain ⟨A3, n3, c3, rfl, _, _, _⟩ := hx3.boos.form
          have HB3 : Hid (Below w.heap.size w w3) := HB2.out.trans (hb3.mono HB2.out.size)
          have LS3 : Hid (Boos w3 (.slice A n c) l) := LS2.out.below hb3
          have V3 : Hid (Byt w3 (.slice Ab nb cb) b) := V2.out.below hb3
          have S3 : Hid (SpBox w3 (w.heap.size) (p) (.slice A n c)) := S2.out.below hb3
          obtain ⟨w4, hw4⟩ : ∃ u, (w3.alloc (.cells #[.int .i64 (tp), .slice A3 n3 c3] 24)) = u := ⟨_, rfl⟩
          have HW4 := Lib.hid hw4
          have hb4 : Below w3.heap.size w3 w4 := hw4 ▸ below_new _ _
          have HB4 : Hid (Below w.heap.size w w4) := HB3.out.trans (hb4.mono HB3.out.size)
          have LS4 : Hid (Boos w4 (.slice A n c) l) := LS3.out.below hb4
          have V4 : Hid (Byt w4 (.slice Ab nb cb) b) := V3.out.below hb4
          have S4 : Hid (SpBox w4 (w.heap.size) (p) (.slice A n c)) := S3.out.below hb4
          have T4 : Hid (SpBox w4 w3.heap.size (tp) (.slice A3 n3 c3)) := hw4 ▸ SBox.new w3 24 [.int .i64 (tp), .slice A3 n3 c3]
          have LT4 : Hid (Boos w4 (.slice A3 n3 c3) (tl)) := hw4 ▸ Rowz.alloc hx3.boos _
          clear hx3 hb3 hw4 hb4
          have pS : (w3.alloc (.cells #[.int .i64 (tp), .slice A3 n3 c3] 24)).cell? ⟨w.heap.size, 0, none⟩ = some (.int .i64 (p)) := by rw [HW4.out]; exact S4.out.c0
          have rS : (w3.alloc (.cells #[.int .i64 (tp), .slice A3 n3 c3] 24)).cell? ⟨w.heap.size, 1, none⟩ = some (.slice A n c) := by rw [HW4.out]; exact S4.out.c1
          go_wp2_with fail
          rw [HW4.out]
          clear pS rS
          refine (HBT.out ▸ spBytes_any w4 tp _ tl LT4.out HTL.out).mono ?_
          rintro e w5 ⟨x5, rfl, hx5, hb5⟩
          have HB5 : Hid (Below w.heap.size w w5) := HB4.out.trans (hb5.mono HB4.out.size)
          have LS5 : Hid (Boos w5 (.slice A n c) l) := LS4.out.below hb5
          have V5 : Hid (Byt w5 (.slice Ab nb cb) b) := V4.out.below hb5
          have LT5 : Hid (Boos w5 (.slice A3 n3 c3) (tl)) := LT4.out.below hb5
          have S5 : Hid (SpBox w5 (w.heap.size) (p) (.slice A n c)) := S4.out.below hb5
          have T5 : Hid (SpBox w5 (w3.heap.size) (tp) (.slice A3 n3 c3)) := T4.out.below hb5
          have X5 := Lib.hid hx5.byt
          clear hx5
          have t1 := text_of X5.out
          have t2 := text_of V5.out
          clear hb5
          have pS := S5.out.c0
          have rS := S5.out.c1
          have pT := T5.out.c0
          have rT := T5.out.c1
          go_wp2_with fail
          clear pS rS pT rT
          clear t1 t2
          refine (HBS.out ▸ spBytes_any w5 p _ l LS5.out HLL.out).mono ?_
          rintro e w6 ⟨y6, rfl, hy6, hb6⟩
          have HB6 : Hid (Below w.heap.size w w6) := HB5.out.trans (hb6.mono HB5.out.size)
          have LS6 : Hid (Boos w6 (.slice A n c) l) := LS5.out.below hb6
          have V6 : Hid (Byt w6 (.slice Ab nb cb) b) := V5.out.below hb6
          have LT6 : Hid (Boos w6 (.slice A3 n3 c3) (tl)) := LT5.out.below hb6
          have S6 : Hid (SpBox w6 (w.heap.size) (p) (.slice A n c)) := S5.out.below hb6
          have T6 : Hid (SpBox w6 (w3.heap.size) (tp) (.slice A3 n3 c3)) := T5.out.below hb6
          clear hy6
          clear hb6
          have pS := S6.out.c0
          have rS := S6.out.c1
          have pT := T6.out.c0
          have rT := T6.out.c1
          go_wp2_with fail
          clear pS rS pT rT
          refine (HCS.out ▸ spcheck_any w6 p _ l LS6.out HLL.out).mono ?_
          rintro e w7 ⟨rfl, hb7⟩
          have HB7 : Hid (Below w.heap.size w w7) := HB6.out.trans (hb7.mono HB6.out.size)
          have LS7 : Hid (Boos w7 (.slice A n c) l) := LS6.out.below hb7
          have V7 : Hid (Byt w7 (.slice Ab nb cb) b) := V6.out.below hb7
          have LT7 : Hid (Boos w7 (.slice A3 n3 c3) (tl)) := LT6.out.below hb7
          have S7 : Hid (SpBox w7 (w.heap.size) (p) (.slice A n c)) := S6.out.below hb7
          have T7 : Hid (SpBox w7 (w3.heap.size) (tp) (.slice A3 n3 c3)) := T6.out.below hb7
          clear hb7
          have pS := S7.out.c0
          have rS := S7.out.c1
          have pT := T7.out.c0
          have rT := T7.out.c1
          go_wp2_with fail
          clear pS rS pT rT
          go_ret
          exact ⟨rfl, HB7.out⟩
      · have HRD := Lib.hid hr
        clear hr HR0
        by_cases hok : spOk p l
        · have HBS : Hid (spBytes p l = (spB p l, 0)) := if_pos hok
          have HR1 : Hid (spRead (spB p l) = (p, l, 0)) := spRead_B hok
          have HR2 : Hid (spRead ((spB p l).take ((spB p l).length - 1)) = (0, [], 4)) := spRead_cut hok
          have HR3 : Hid (spRead (spB p l ++ [0]) = (0, [], 4)) := spRead_more hok
          clear hok
          go_enter Try.func6, Try.ntmps6
          go_wp2_with fail
          rw [HW0.out]
          refine (lives8_any w0).mono ?_
          rintro e w1 ⟨rfl, hb1⟩
          have HB1 : Hid (Below w.heap.size w w1) := HB0.out.trans (hb1.mono HB0.out.size)
          have LS1 : Hid (Boos w1 (.slice A n c) l) := LS0.out.below hb1
          have V1 : Hid (Byt w1 (.slice Ab nb cb) b) := V0.out.below hb1
          have S1 : Hid (SpBox w1 (w.heap.size) (p) (.slice A n c)) := S0.out.below hb1
          clear hb1
          have pS := S1.out.c0
          have rS := S1.out.c1
          go_wp2_with fail
          clear pS rS
          refine (kitown_any w1 (.slice Ab nb cb) b V1.out (by have := HN.out; omega)).mono ?_
          rintro e w2 ⟨o2, rfl, ho2, hb2⟩
          have HB2 : Hid (Below w.heap.size w w2) := HB1.out.trans (hb2.mono HB1.out.size)
          have LS2 : Hid (Boos w2 (.slice A n c) l) := LS1.out.below hb2
          have V2 : Hid (Byt w2 (.slice Ab nb cb) b) := V1.out.below hb2
          have S2 : Hid (SpBox w2 (w.heap.size) (p) (.slice A n c)) := S1.out.below hb2
          have O2 := Lib.hid ho2.byt
          clear ho2
          clear hb2
          have pS := S2.out.c0
          have rS := S2.out.c1
          go_wp2_with fail
          clear pS rS
          refine (HRD.out ▸ spRead_any w2 o2 b O2.out (by have := HN.out; omega)).mono ?_
          rintro e w3 ⟨x3, rfl, hx3, hb3⟩
          obtain ⟨A3, n3, c3, rfl, _, _, _⟩ := hx3.boos.form
          have HB3 : Hid (Below w.heap.size w w3) := HB2.out.trans (hb3.mono HB2.out.size)
          have LS3 : Hid (Boos w3 (.slice A n c) l) := LS2.out.below hb3
          have V3 : Hid (Byt w3 (.slice Ab nb cb) b) := V2.out.below hb3
          have S3 : Hid (SpBox w3 (w.heap.size) (p) (.slice A n c)) := S2.out.below hb3
          obtain ⟨w4, hw4⟩ : ∃ u, (w3.alloc (.cells #[.int .i64 (0), .slice A3 n3 c3] 24)) = u := ⟨_, rfl⟩
          have HW4 := Lib.hid hw4
          have hb4 : Below w3.heap.size w3 w4 := hw4 ▸ below_new _ _
          have HB4 : Hid (Below w.heap.size w w4) := HB3.out.trans (hb4.mono HB3.out.size)
          have LS4 : Hid (Boos w4 (.slice A n c) l) := LS3.out.below hb4
          have V4 : Hid (Byt w4 (.slice Ab nb cb) b) := V3.out.below hb4
          have S4 : Hid (SpBox w4 (w.heap.size) (p) (.slice A n c)) := S3.out.below hb4
          have T4 : Hid (SpBox w4 w3.heap.size (0) (.slice A3 n3 c3)) := hw4 ▸ SBox.new w3 24 [.int .i64 (0), .slice A3 n3 c3]
          have LT4 : Hid (Boos w4 (.slice A3 n3 c3) ([])) := hw4 ▸ Rowz.alloc hx3.boos _
          clear hx3 hb3 hw4 hb4
          have pS : (w3.alloc (.cells #[.int .i64 (0), .slice A3 n3 c3] 24)).cell? ⟨w.heap.size, 0, none⟩ = some (.int .i64 (p)) := by rw [HW4.out]; exact S4.out.c0
          have rS : (w3.alloc (.cells #[.int .i64 (0), .slice A3 n3 c3] 24)).cell? ⟨w.heap.size, 1, none⟩ = some (.slice A n c) := by rw [HW4.out]; exact S4.out.c1
          go_wp2_with fail
          rw [HW4.out]
          clear pS rS
          refine (HBS.out ▸ spBytes_any w4 p _ l LS4.out HLL.out).mono ?_
          rintro e w5 ⟨y5, rfl, hy5, hb5⟩
          have HB5 : Hid (Below w.heap.size w w5) := HB4.out.trans (hb5.mono HB4.out.size)
          have LS5 : Hid (Boos w5 (.slice A n c) l) := LS4.out.below hb5
          have V5 : Hid (Byt w5 (.slice Ab nb cb) b) := V4.out.below hb5
          have LT5 : Hid (Boos w5 (.slice A3 n3 c3) ([])) := LT4.out.below hb5
          have S5 : Hid (SpBox w5 (w.heap.size) (p) (.slice A n c)) := S4.out.below hb5
          have T5 : Hid (SpBox w5 (w3.heap.size) (0) (.slice A3 n3 c3)) := T4.out.below hb5
          obtain ⟨Ay, ny, cy, rfl, NY, hny, hcy⟩ := hy5.byt.form
          have Y5 : Hid (Byt w5 (.slice Ay ny cy) (spB p l)) := hy5.byt
          clear hy5
          clear hb5
          have pS := S5.out.c0
          have rS := S5.out.c1
          have pT := T5.out.c0
          have rT := T5.out.c1
          go_wp2_with fail
          clear pS rS pT rT
          refine (kitown_any w5 _ _ Y5.out HSL.out).mono ?_
          rintro e w6 ⟨o6, rfl, ho6, hb6⟩
          have HB6 : Hid (Below w.heap.size w w6) := HB5.out.trans (hb6.mono HB5.out.size)
          have LS6 : Hid (Boos w6 (.slice A n c) l) := LS5.out.below hb6
          have V6 : Hid (Byt w6 (.slice Ab nb cb) b) := V5.out.below hb6
          have LT6 : Hid (Boos w6 (.slice A3 n3 c3) ([])) := LT5.out.below hb6
          have Y6 : Hid (Byt w6 (.slice Ay ny cy) (spB p l)) := Y5.out.below hb6
          have S6 : Hid (SpBox w6 (w.heap.size) (p) (.slice A n c)) := S5.out.below hb6
          have T6 : Hid (SpBox w6 (w3.heap.size) (0) (.slice A3 n3 c3)) := T5.out.below hb6
          have O6 := Lib.hid ho6.byt
          clear ho6
          clear hb6
          have pS := S6.out.c0
          have rS := S6.out.c1
          have pT := T6.out.c0
          have rT := T6.out.c1
          go_wp2_with fail
          clear pS rS pT rT
          refine (HR1.out ▸ spRead_any w6 o6 (spB p l) O6.out HSL.out).mono ?_
          rintro e w7 ⟨x7, rfl, hx7, hb7⟩
          obtain ⟨A7, n7, c7, rfl, _, _, _⟩ := hx7.boos.form
          have HB7 : Hid (Below w.heap.size w w7) := HB6.out.trans (hb7.mono HB6.out.size)
          have LS7 : Hid (Boos w7 (.slice A n c) l) := LS6.out.below hb7
          have V7 : Hid (Byt w7 (.slice Ab nb cb) b) := V6.out.below hb7
          have LT7 : Hid (Boos w7 (.slice A3 n3 c3) ([])) := LT6.out.below hb7
          have Y7 : Hid (Byt w7 (.slice Ay ny cy) (spB p l)) := Y6.out.below hb7
          have S7 : Hid (SpBox w7 (w.heap.size) (p) (.slice A n c)) := S6.out.below hb7
          have T7 : Hid (SpBox w7 (w3.heap.size) (0) (.slice A3 n3 c3)) := T6.out.below hb7
          have HX7 := Lib.hid hx7
          have HNB : Hid ((Value.slice A7 n7 c7).ownBlock ≠ some w3.heap.size) := fun hk => by have := (World.ownsRow.lt HX7.out _ hk).1; have := T6.out.lt; omega
          have HTA : Hid (w.heap.size < w3.heap.size) := S3.out.lt
          have hys : ny = (spB p l).length := NY.out
          have hle : 0 < ny := by rw [hys, spB_len]; omega
          obtain ⟨A2, n2, c2, hcut, bcut, _, _, _⟩ := Y7.out.uptorun 36 elemByte sizeByte (ny - 1) (by omega) .i64
          have hcast : ((ny - 1 : Nat) : Int) = (ny : Int) - 1 := by omega
          rw [hcast] at hcut
          rw [hys] at bcut
          have BC := Lib.hid bcut
          clear hx7 hb7 hys bcut hcast
          go_wp2_with (refine wpList_storeS T7.out spInfo rfl _ _ rfl rfl (ds := [.int .i64 p, .slice A7 n7 c7]) rfl rfl (one_sp _ _ _ _) ?_; intro w8 hs hg hz
                       have HB8 : Hid (Below w.heap.size w w8) := HB7.out.grown hg HB7.out.size (fun k e => by cases e; have := HTA.out; omega)
                       have S8 : Hid (SpBox w8 w.heap.size p (.slice A n c)) := S7.out.grown hg (by have := HTA.out; omega)
                       have T8 : Hid (SpBox w8 w3.heap.size p (.slice A7 n7 c7)) := hs
                       have LT8 : Hid (Boos w8 (.slice A7 n7 c7) l) := Rowz.grown HX7.out.boos hg (fun k hk e => HNB.out (by rw [hk, e]))
                       have LS8 : Hid (Boos w8 (.slice A n c) l) := HVW.out.below HB8.out
                       have Y8 : Hid (Byt w8 (.slice Ay ny cy) (spB p l)) := Y7.out.spbox T7.out hg
                       have C8 : Hid (Byt w8 (.slice A2 n2 c2) ((spB p l).take ((spB p l).length - 1))) := BC.out.spbox T7.out hg
                       clear hs hg hz)
          refine (HR2.out ▸ spRead_any w8 _ _ C8.out (by have := HSL.out; rw [List.length_take]; omega)).mono ?_
          rintro e w9 ⟨x9, rfl, hx9, hb9⟩
          obtain ⟨A9, n9, c9, rfl, _, _, _⟩ := hx9.boos.form
          have HB9 : Hid (Below w.heap.size w w9) := HB8.out.trans (hb9.mono HB8.out.size)
          have LS9 : Hid (Boos w9 (.slice A n c) l) := LS8.out.below hb9
          have LT9 : Hid (Boos w9 (.slice A7 n7 c7) l) := LT8.out.below hb9
          have Y9 : Hid (Byt w9 (.slice Ay ny cy) (spB p l)) := Y8.out.below hb9
          have S9 : Hid (SpBox w9 (w.heap.size) (p) (.slice A n c)) := S8.out.below hb9
          have T9 : Hid (SpBox w9 (w3.heap.size) (p) (.slice A7 n7 c7)) := T8.out.below hb9
          obtain ⟨w10, hw10⟩ : ∃ u, (w9.alloc (.cells #[.int .i64 (0), .slice A9 n9 c9] 24)) = u := ⟨_, rfl⟩
          have HW10 := Lib.hid hw10
          have hb10 : Below w9.heap.size w9 w10 := hw10 ▸ below_new _ _
          have HB10 : Hid (Below w.heap.size w w10) := HB9.out.trans (hb10.mono HB9.out.size)
          have LS10 : Hid (Boos w10 (.slice A n c) l) := LS9.out.below hb10
          have LT10 : Hid (Boos w10 (.slice A7 n7 c7) l) := LT9.out.below hb10
          have Y10 : Hid (Byt w10 (.slice Ay ny cy) (spB p l)) := Y9.out.below hb10
          have S10 : Hid (SpBox w10 (w.heap.size) (p) (.slice A n c)) := S9.out.below hb10
          have T10 : Hid (SpBox w10 (w3.heap.size) (p) (.slice A7 n7 c7)) := T9.out.below hb10
          have U10 : Hid (SpBox w10 w9.heap.size (0) (.slice A9 n9 c9)) := hw10 ▸ SBox.new w9 24 [.int .i64 (0), .slice A9 n9 c9]
          have LU10 : Hid (Boos w10 (.slice A9 n9 c9) ([])) := hw10 ▸ Rowz.alloc hx9.boos _
          clear hx9 hb9 hw10 hb10
          have pS : (w9.alloc (.cells #[.int .i64 (0), .slice A9 n9 c9] 24)).cell? ⟨w.heap.size, 0, none⟩ = some (.int .i64 (p)) := by rw [HW10.out]; exact S10.out.c0
          have rS : (w9.alloc (.cells #[.int .i64 (0), .slice A9 n9 c9] 24)).cell? ⟨w.heap.size, 1, none⟩ = some (.slice A n c) := by rw [HW10.out]; exact S10.out.c1
          have pT : (w9.alloc (.cells #[.int .i64 (0), .slice A9 n9 c9] 24)).cell? ⟨w3.heap.size, 0, none⟩ = some (.int .i64 (p)) := by rw [HW10.out]; exact T10.out.c0
          have rT : (w9.alloc (.cells #[.int .i64 (0), .slice A9 n9 c9] 24)).cell? ⟨w3.heap.size, 1, none⟩ = some (.slice A7 n7 c7) := by rw [HW10.out]; exact T10.out.c1
          go_wp2_with fail
          rw [HW10.out]
          clear pS rS pT rT
          refine (kitown_any w10 _ _ Y10.out HSL.out).mono ?_
          rintro e w11 ⟨o11, rfl, ho11, hb11⟩
          have HB11 : Hid (Below w.heap.size w w11) := HB10.out.trans (hb11.mono HB10.out.size)
          have LS11 : Hid (Boos w11 (.slice A n c) l) := LS10.out.below hb11
          have LT11 : Hid (Boos w11 (.slice A7 n7 c7) l) := LT10.out.below hb11
          have Y11 : Hid (Byt w11 (.slice Ay ny cy) (spB p l)) := Y10.out.below hb11
          have S11 : Hid (SpBox w11 (w.heap.size) (p) (.slice A n c)) := S10.out.below hb11
          have T11 : Hid (SpBox w11 (w3.heap.size) (p) (.slice A7 n7 c7)) := T10.out.below hb11
          have O11 := Lib.hid ho11
          have HKN := Lib.hid hb11
          have HLK : Hid (w10.heap.size ≤ w11.heap.size) := hb11.size
          clear ho11
          clear hb11
          go_wp2_with (at_builtin; refine wpList_app _ rfl (.tmp 74) (.tmp 75) _ rfl w10.heap.size 5 i0 _ Try.underlying36 hi0 hz0 hz1 hz2 rfl _ (spB p l) rfl (World.ownsRow.alloc O11.out _) (.slice (some ⟨w11.heap.size, 0, none⟩) 1 1) [0] rfl (Byt.lit1 _ _ _ _ _ rfl) (by have := HSL.out; simp only [List.length_cons, List.length_nil]; omega) (by have := HLK.out; simp; omega) ?_; intro v12 w12 hown hgr hat
                       have hbk : Below w10.heap.size w10 w12 := below_own (HKN.out.alloc HKN.out.size _) (by have := HKN.out.size; simp; omega) (World.ownsRow.alloc O11.out _) hgr
                       have O12 := Lib.hid hown.byt
                       have HBK := Lib.hid hbk
                       clear hown hgr hat hbk)
          have HB12 : Hid (Below w.heap.size w w12) := HB10.out.trans (HBK.out.mono HB10.out.size)
          have LS12 : Hid (Boos w12 (.slice A n c) l) := LS10.out.below HBK.out
          have LT12 : Hid (Boos w12 (.slice A7 n7 c7) l) := LT10.out.below HBK.out
          have Y12 : Hid (Byt w12 (.slice Ay ny cy) (spB p l)) := Y10.out.below HBK.out
          have S12 : Hid (SpBox w12 (w.heap.size) (p) (.slice A n c)) := S10.out.below HBK.out
          have T12 : Hid (SpBox w12 (w3.heap.size) (p) (.slice A7 n7 c7)) := T10.out.below HBK.out
          refine (HR3.out ▸ spRead_any w12 _ _ O12.out (by have := HSL.out; rw [List.length_append]; simp; have := HN.out; rw [spB_len]; unfold spM; omega)).mono ?_
          rintro e w13 ⟨x13, rfl, hx13, hb13⟩
          obtain ⟨A13, n13, c13, rfl, _, _, _⟩ := hx13.boos.form
          have HB13 : Hid (Below w.heap.size w w13) := HB12.out.trans (hb13.mono HB12.out.size)
          have LS13 : Hid (Boos w13 (.slice A n c) l) := LS12.out.below hb13
          have LT13 : Hid (Boos w13 (.slice A7 n7 c7) l) := LT12.out.below hb13
          have Y13 : Hid (Byt w13 (.slice Ay ny cy) (spB p l)) := Y12.out.below hb13
          have S13 : Hid (SpBox w13 (w.heap.size) (p) (.slice A n c)) := S12.out.below hb13
          have T13 : Hid (SpBox w13 (w3.heap.size) (p) (.slice A7 n7 c7)) := T12.out.below hb13
          obtain ⟨w14, hw14⟩ : ∃ u, (w13.alloc (.cells #[.int .i64 (0), .slice A13 n13 c13] 24)) = u := ⟨_, rfl⟩
          have HW14 := Lib.hid hw14
          have hb14 : Below w13.heap.size w13 w14 := hw14 ▸ below_new _ _
          have HB14 : Hid (Below w.heap.size w w14) := HB13.out.trans (hb14.mono HB13.out.size)
          have LS14 : Hid (Boos w14 (.slice A n c) l) := LS13.out.below hb14
          have LT14 : Hid (Boos w14 (.slice A7 n7 c7) l) := LT13.out.below hb14
          have Y14 : Hid (Byt w14 (.slice Ay ny cy) (spB p l)) := Y13.out.below hb14
          have S14 : Hid (SpBox w14 (w.heap.size) (p) (.slice A n c)) := S13.out.below hb14
          have T14 : Hid (SpBox w14 (w3.heap.size) (p) (.slice A7 n7 c7)) := T13.out.below hb14
          have U14 : Hid (SpBox w14 w13.heap.size (0) (.slice A13 n13 c13)) := hw14 ▸ SBox.new w13 24 [.int .i64 (0), .slice A13 n13 c13]
          have LU14 : Hid (Boos w14 (.slice A13 n13 c13) ([])) := hw14 ▸ Rowz.alloc hx13.boos _
          clear hx13 hb13 hw14 hb14
          have pS : (w13.alloc (.cells #[.int .i64 (0), .slice A13 n13 c13] 24)).cell? ⟨w.heap.size, 0, none⟩ = some (.int .i64 (p)) := by rw [HW14.out]; exact S14.out.c0
          have rS : (w13.alloc (.cells #[.int .i64 (0), .slice A13 n13 c13] 24)).cell? ⟨w.heap.size, 1, none⟩ = some (.slice A n c) := by rw [HW14.out]; exact S14.out.c1
          have pT : (w13.alloc (.cells #[.int .i64 (0), .slice A13 n13 c13] 24)).cell? ⟨w3.heap.size, 0, none⟩ = some (.int .i64 (p)) := by rw [HW14.out]; exact T14.out.c0
          have rT : (w13.alloc (.cells #[.int .i64 (0), .slice A13 n13 c13] 24)).cell? ⟨w3.heap.size, 1, none⟩ = some (.slice A7 n7 c7) := by rw [HW14.out]; exact T14.out.c1
          go_wp2_with fail
          rw [HW14.out]
          clear pS rS pT rT
          refine (dec_same p l ▸ spsame_any w14 p p _ _ l l LS14.out LT14.out).mono ?_
          rintro e w15 ⟨rfl, hb15⟩
          have HB15 : Hid (Below w.heap.size w w15) := HB14.out.trans (hb15.mono HB14.out.size)
          have LS15 : Hid (Boos w15 (.slice A n c) l) := LS14.out.below hb15
          have LT15 : Hid (Boos w15 (.slice A7 n7 c7) l) := LT14.out.below hb15
          have Y15 : Hid (Byt w15 (.slice Ay ny cy) (spB p l)) := Y14.out.below hb15
          have LU15 : Hid (Boos w15 (.slice A13 n13 c13) ([])) := LU14.out.below hb15
          have S15 : Hid (SpBox w15 (w.heap.size) (p) (.slice A n c)) := S14.out.below hb15
          have T15 : Hid (SpBox w15 (w3.heap.size) (p) (.slice A7 n7 c7)) := T14.out.below hb15
          have U15 : Hid (SpBox w15 (w13.heap.size) (0) (.slice A13 n13 c13)) := U14.out.below hb15
          clear hb15
          have pS := S15.out.c0
          have rS := S15.out.c1
          have pT := T15.out.c0
          have rT := T15.out.c1
          have pU := U15.out.c0
          have rU := U15.out.c1
          go_wp2_with fail
          clear pS rS pT rT pU rU
          go_ret
          exact ⟨rfl, HB15.out⟩
        · have HBS : Hid (spBytes p l = ([], 2)) := if_neg hok
          have HCS : Hid ((if spOk p l then (0 : Int) else 2) = 2) := if_neg hok
          clear hok
          go_enter Try.func6, Try.ntmps6
          go_wp2_with fail
          rw [HW0.out]
          refine (lives8_any w0).mono ?_
          rintro e w1 ⟨rfl, hb1⟩
          have HB1 : Hid (Below w.heap.size w w1) := HB0.out.trans (hb1.mono HB0.out.size)
          have LS1 : Hid (Boos w1 (.slice A n c) l) := LS0.out.below hb1
          have V1 : Hid (Byt w1 (.slice Ab nb cb) b) := V0.out.below hb1
          have S1 : Hid (SpBox w1 (w.heap.size) (p) (.slice A n c)) := S0.out.below hb1
          clear hb1
          have pS := S1.out.c0
          have rS := S1.out.c1
          go_wp2_with fail
          clear pS rS
          refine (kitown_any w1 (.slice Ab nb cb) b V1.out (by have := HN.out; omega)).mono ?_
          rintro e w2 ⟨o2, rfl, ho2, hb2⟩
          have HB2 : Hid (Below w.heap.size w w2) := HB1.out.trans (hb2.mono HB1.out.size)
          have LS2 : Hid (Boos w2 (.slice A n c) l) := LS1.out.below hb2
          have V2 : Hid (Byt w2 (.slice Ab nb cb) b) := V1.out.below hb2
          have S2 : Hid (SpBox w2 (w.heap.size) (p) (.slice A n c)) := S1.out.below hb2
          have O2 := Lib.hid ho2.byt
          clear ho2
          clear hb2
          have pS := S2.out.c0
          have rS := S2.out.c1
          go_wp2_with fail
          clear pS rS
          refine (HRD.out ▸ spRead_any w2 o2 b O2.out (by have := HN.out; omega)).mono ?_
          rintro e w3 ⟨x3, rfl, hx3, hb3⟩
          obtain ⟨A3, n3, c3, rfl, _, _, _⟩ := hx3.boos.form
          have HB3 : Hid (Below w.heap.size w w3) := HB2.out.trans (hb3.mono HB2.out.size)
          have LS3 : Hid (Boos w3 (.slice A n c) l) := LS2.out.below hb3
          have V3 : Hid (Byt w3 (.slice Ab nb cb) b) := V2.out.below hb3
          have S3 : Hid (SpBox w3 (w.heap.size) (p) (.slice A n c)) := S2.out.below hb3
          obtain ⟨w4, hw4⟩ : ∃ u, (w3.alloc (.cells #[.int .i64 (0), .slice A3 n3 c3] 24)) = u := ⟨_, rfl⟩
          have HW4 := Lib.hid hw4
          have hb4 : Below w3.heap.size w3 w4 := hw4 ▸ below_new _ _
          have HB4 : Hid (Below w.heap.size w w4) := HB3.out.trans (hb4.mono HB3.out.size)
          have LS4 : Hid (Boos w4 (.slice A n c) l) := LS3.out.below hb4
          have V4 : Hid (Byt w4 (.slice Ab nb cb) b) := V3.out.below hb4
          have S4 : Hid (SpBox w4 (w.heap.size) (p) (.slice A n c)) := S3.out.below hb4
          have T4 : Hid (SpBox w4 w3.heap.size (0) (.slice A3 n3 c3)) := hw4 ▸ SBox.new w3 24 [.int .i64 (0), .slice A3 n3 c3]
          have LT4 : Hid (Boos w4 (.slice A3 n3 c3) ([])) := hw4 ▸ Rowz.alloc hx3.boos _
          clear hx3 hb3 hw4 hb4
          have pS : (w3.alloc (.cells #[.int .i64 (0), .slice A3 n3 c3] 24)).cell? ⟨w.heap.size, 0, none⟩ = some (.int .i64 (p)) := by rw [HW4.out]; exact S4.out.c0
          have rS : (w3.alloc (.cells #[.int .i64 (0), .slice A3 n3 c3] 24)).cell? ⟨w.heap.size, 1, none⟩ = some (.slice A n c) := by rw [HW4.out]; exact S4.out.c1
          go_wp2_with fail
          rw [HW4.out]
          clear pS rS
          refine (HBS.out ▸ spBytes_any w4 p _ l LS4.out HLL.out).mono ?_
          rintro e w5 ⟨y5, rfl, hy5, hb5⟩
          have HB5 : Hid (Below w.heap.size w w5) := HB4.out.trans (hb5.mono HB4.out.size)
          have LS5 : Hid (Boos w5 (.slice A n c) l) := LS4.out.below hb5
          have V5 : Hid (Byt w5 (.slice Ab nb cb) b) := V4.out.below hb5
          have LT5 : Hid (Boos w5 (.slice A3 n3 c3) ([])) := LT4.out.below hb5
          have S5 : Hid (SpBox w5 (w.heap.size) (p) (.slice A n c)) := S4.out.below hb5
          have T5 : Hid (SpBox w5 (w3.heap.size) (0) (.slice A3 n3 c3)) := T4.out.below hb5
          clear hy5
          clear hb5
          have pS := S5.out.c0
          have rS := S5.out.c1
          have pT := T5.out.c0
          have rT := T5.out.c1
          go_wp2_with fail
          clear pS rS pT rT
          refine (HCS.out ▸ spcheck_any w5 p _ l LS5.out HLL.out).mono ?_
          rintro e w6 ⟨rfl, hb6⟩
          have HB6 : Hid (Below w.heap.size w w6) := HB5.out.trans (hb6.mono HB5.out.size)
          have LS6 : Hid (Boos w6 (.slice A n c) l) := LS5.out.below hb6
          have V6 : Hid (Byt w6 (.slice Ab nb cb) b) := V5.out.below hb6
          have LT6 : Hid (Boos w6 (.slice A3 n3 c3) ([])) := LT5.out.below hb6
          have S6 : Hid (SpBox w6 (w.heap.size) (p) (.slice A n c)) := S5.out.below hb6
          have T6 : Hid (SpBox w6 (w3.heap.size) (0) (.slice A3 n3 c3)) := T5.out.below hb6
          clear hb6
          have pS := S6.out.c0
          have rS := S6.out.c1
          have pT := T6.out.c0
          have rT := T6.out.c1
          go_wp2_with fail
          clear pS rS pT rT
          go_ret
          exact ⟨rfl, HB6.out⟩

set_option maxRecDepth 100000 in
theorem lifted (os : Os) (started : os.Started) (H : Type) (enc : TypeId × Value → H) :
    ReturnsInHanded {} Try.checked os 6 .any (Rows.spaceBackSpec.pre6 enc Try.prog Try.f6 Rows.spaceBackRow.domain false) (Rows.spaceBackSpec.post enc Try.prog Try.f6 false true false false) := by
  refine returnsInHanded_of_change (C := Try.checked) ownKnobs started (by kernel_rfl) Try.func6
    (ChangeSpec.witness6 (enc := enc) (C := Try.checked) false ⟨#[], #[.agg #[.int .i64 0, .slice none 0 0], .slice none 0 0], []⟩ 8 (by kernel_rfl) (by kernel_rfl) (by kernel_rfl) (by kernel_rfl)) ?_
  intro W base args ds gs before hval0 hW hcnd _
  have hval : ∀ (j : Nat) t v, Try.f6.params[j]? = some t → args[j]? = some v → Value.okWide Try.prog W .any base t v := hval0
  have hW' := hW
  obtain ⟨p, q, hA0, hV, rfl, hfz, hnd⟩ := hW
  have hA : DataW.TrodAll enc Try.prog W 0 (fun _ => true) true Try.f6.params.toList args.toList ds p := hA0
  rw [Try.params6] at hA hval
  obtain ⟨v0, vs0, d0, ds0, p0, q0, hargs, rfl, rfl, h0, r0⟩ := trodAll_cons hA
  obtain ⟨v1, vs1, d1, ds1, p1, q1, rfl, rfl, rfl, h1, r1⟩ := trodAll_cons r0
  obtain ⟨rfl, rfl, rfl⟩ := trodAll_nil r1
  obtain rfl : args = #[v0, v1] := by cases args; simp_all
  obtain ⟨rfl, rfl⟩ := trodVars_none hV
  have k0 := h0
  have lt0 : ∀ x ∈ p0, x.block < W.heap.size := by obtain ⟨m, hm⟩ := k0; exact DataW.trod_lt m _ _ _ hm
  obtain ⟨sp0, sv0, sl0, rfl, b0, sb0⟩ := open_space (hval 0 24 v0 rfl rfl) h0
  have k1 := h1
  have lt1 : ∀ x ∈ p1, x.block < W.heap.size := by obtain ⟨m, hm⟩ := k1; exact DataW.trod_lt m _ _ _ hm
  obtain ⟨l1, b1⟩ := open_bytes (hval 1 36 v1 rfl rfl) h1
  clear hA0 hval0
  refine (walk W sp0 sv0 sl0 v1 l1 b0 sb0 b1).mono fun e W' ⟨he, bel⟩ => ?_
  subst he
  exact ⟨_, rfl, _, _, _, [], _, [], hW', trodAll_mk1 (shut_bool Try.underlying4 _), (trodAll_cons_mk (Below.trod laidOuts (by kernel_rfl) (of_decide_eq_true (by kernel_rfl)) k0 bel lt0) (trodAll_cons_mk (Below.trod laidOuts (by kernel_rfl) (of_decide_eq_true (by kernel_rfl)) k1 bel lt1) trodAll_mk0)), rfl, bel.frame _, fun h => by cases h⟩

theorem over : Rows.spaceBackRow.holds Try.pinned (OpenSpec.ofChange Rows.spaceBackSpec) :=
  OpenClaim.holds_of_wide 6 Try.f6 rfl rfl rfl rfl rfl rfl rfl ⟨rfl, rfl, rfl, rfl, rfl⟩ rfl rfl rfl rfl rfl (by kernel_rfl) Try.func6 (by kernel_rfl)
    (of_decide_eq_true (by kernel_rfl)) (by unfold Func.isWrapper; first | (rw [if_pos (by decide +kernel)]; kernel_rfl) | (rw [if_neg (by decide +kernel)]; exact ⟨rfl, rfl⟩))
    (fun os started H enc _ => lifted os started H enc)

theorem proved : Rows.SpaceBackSaid := over
#print axioms proved
end Go.Proofs.Ytncjobeahpjnpaa.spaceBack

