/-
  Package space's with, Use, Give, New by their contracts. Conditions: at most 2^46 bools.
-/
import Derived.Test.YtncjobeahpjnpaaSpC
import Derived.Test.YtncjobeahpjnpaaSBx
import Derived.Test.YtncjobeahpjnpaaText
namespace Go.Proofs.Ytncjobeahpjnpaa
open Go.RowKit Go.Maps
set_option maxRecDepth 100000

/-- What a call that answers a space leaves. -/
def SpMade (w : World) (p : Int) (l : List Bool) (e : Ending) (w' : World) : Prop := ∃ x, e = .returned (.agg #[.int .i64 p, x]) ∧ OwnB w' w.heap.size x l ∧ Below w.heap.size w w'
/-- .. and an error. -/
def SpOut (w : World) (r : Int × List Bool × Nat) (e : Ending) (w' : World) : Prop := ∃ x, e = .returned (.tuple #[.agg #[.int .i64 r.1, x], .int .i64 (r.2.2 : Int)]) ∧ OwnB w' w.heap.size x r.2.1 ∧ Below w.heap.size w w'

theorem spInfo : (Try.prog.info? 24).map (·.size) = some 2 := by kernel_rfl
theorem boolInfo1 : (Try.prog.info? 4).map (·.size) = some 1 := by kernel_rfl
theorem boolsInfo1 : (Try.prog.info? 22).map (·.size) = some 1 := by kernel_rfl
/-- A box of a space. -/
abbrev SpBox (w : World) (g : Nat) (p : Int) (v : Value) : Prop := SBox w g 24 [.int .i64 p, v]
theorem SpBox.c0 {w : World} {g : Nat} {p : Int} {v : Value} (h : SpBox w g p v) : w.cell? ⟨g, 0, none⟩ = some (.int .i64 p) := h.cell 0 _ rfl
theorem SpBox.c1 {w : World} {g : Nat} {p : Int} {v : Value} (h : SpBox w g p v) : w.cell? ⟨g, 1, none⟩ = some v := h.cell 1 _ rfl
theorem SpBox.put1 {w : World} {g : Nat} {p : Int} {v : Value} (h : SpBox w g p v) (x : Value) : SpBox (w.setCell ⟨g, 1, none⟩ x) g p x := SBox.put h 1 x
theorem one_slice (A : Option Addr) (n c : Nat) : (Value.slice A n c).oneCell' = true := rfl
theorem one_sp (p : Int) (A : Option Addr) (n c : Nat) : ∀ u ∈ [Value.int .i64 p, .slice A n c], u.oneCell' = true := by
  intro u hu
  simp at hu
  rcases hu with rfl | rfl <;> rfl
theorem Boos.grownB {w w' : World} {B g k : Nat} {n c : Nat} {l : List Bool} (h : OwnB w B (.slice (some ⟨g, 0, none⟩) n c) l) (hg : w.grownBy w' (some k)) (hne : g ≠ k) : OwnB w' B (.slice (some ⟨g, 0, none⟩) n c) l :=
  World.ownsRow.kept h hg (.inr (by simpa [Value.ownBlock] using fun e => hne e))

theorem own_cellB {w : World} {B g n c : Nat} {l : List Bool} (h : OwnB w B (.slice (some ⟨g, 0, none⟩) n c) l) {j : Nat} (hj : j < l.length) : w.cell? ⟨g, j, none⟩ = some (.bool l[j]) := by
  have := World.ownsRow.cells h (g := g) rfl j (.bool l[j]) (by simp [booC, hj])
  rw [plainAdd, Nat.zero_add] at this
  exact this
theorem own_frozenB {w : World} {B g n c : Nat} {l : List Bool} (h : OwnB w B (.slice (some ⟨g, 0, none⟩) n c) l) (j : Nat) : w.frozen? ⟨g, j, none⟩ = false := by
  rcases h.2 with ⟨e, _⟩ | ⟨g', cap, cur, e, _, hg, _⟩
  · cases e
  · injection e with e1 _ _
    injection e1 with e1
    injection e1 with e1 _ _
    subst e1
    simp [World.frozen?, hg]
theorem own_setB {w : World} {B g n c : Nat} {l : List Bool} (h : OwnB w B (.slice (some ⟨g, 0, none⟩) n c) l) (hl : l.length = n) (j : Nat) (b : Bool) : OwnB (w.setCell ⟨g, j, none⟩ (.bool b)) B (.slice (some ⟨g, 0, none⟩) n c) (l.set j b) := by
  unfold OwnB
  rw [booC_set]
  exact OwnV.set h (by rw [booC_len]; exact hl) j (.bool b)
set_option maxHeartbeats 1000000 in
theorem spwith_any (w : World) (p : Int) (v : Value) (l : List Bool) (n : Nat) (b : Bool) (hv : Boos w v l) (hlen : l.length ≤ 70368744177664) (hn : n < l.length) :
    Calls Try.prog 33 #[.agg #[.int .i64 p, v], .int .i64 (n : Int), .bool b] w (SpMade w p (l.set n b)) := by
  obtain ⟨w0, hw0⟩ : ∃ w0, (w.alloc (.cells #[.int .i64 p, v] 24)).alloc (.cells #[.int .i64 0, .slice none 0 0] 24) = w0 := ⟨_, rfl⟩
  have hb0 : Below w.heap.size w w0 := hw0 ▸ (below_new w _).trans ((below_new _ _).mono (by simp))
  have hz : w0.heap.size = w.heap.size + 2 := by rw [← hw0]; simp
  have hA : SpBox w0 w.heap.size p v := hw0 ▸ (SBox.new w 24 [.int .i64 p, v]).alloc _
  have hR : SpBox w0 (w.heap.size + 1) 0 (.slice none 0 0) := by
    have := SBox.new (w.alloc (.cells #[.int .i64 p, v] 24)) 24 [.int .i64 0, .slice none 0 0]
    rw [World.size_alloc] at this
    exact hw0 ▸ this
  have HC := Lib.hid (booclone_any w0 v l (hv.below hb0) hlen)
  obtain ⟨A, m, c, rfl, N, hnc, hcm⟩ := hv.form
  have HN := Lib.hid hn
  have HB0 := Lib.hid hb0
  have HZ := Lib.hid hz
  have HW0 := Lib.hid hw0
  clear hv hlen hn hb0 hz hw0
  go_enter Try.func33, Try.ntmps33
  go_wp2_with fail
  rw [HW0.out]
  refine HC.out.mono ?_
  rintro e w1 ⟨v1, rfl, ho1, hb1⟩
  obtain ⟨g, c1, rfl, hBg, hg, hc1, hc2, _, _⟩ := OwnV.form ho1 (by rw [booC_len]; have := HN.out; omega)
  have hml : (booC l).length = l.length := booC_len l
  rw [hml] at ho1 hc1 ⊢
  have hA1 : SpBox w1 w.heap.size p (.slice A m c) := hA.below hb1
  have hR1 : SpBox w1 (w.heap.size + 1) 0 (.slice none 0 0) := hR.below hb1
  have hBW1 : Below w.heap.size w w1 := HB0.out.trans (hb1.mono (by rw [HZ.out]; omega))
  obtain ⟨k, hk⟩ : ∃ k, k = l.length := ⟨_, rfl⟩
  rw [← hk] at ho1 hc1 ⊢
  have hnk : (n : Int) < (k : Int) := by have := HN.out; omega
  have HO1 := Lib.hid ho1
  have HA1 := Lib.hid hA1
  have HR1 := Lib.hid hR1
  have HK := Lib.hid hk
  have HBW1 := Lib.hid hBW1
  have HBG := Lib.hid hBg
  have HG := Lib.hid hg
  have hca := hA1.c1
  clear ho1 hA1 hR1 hA hR hb1 hk hBW1 hml hBg hg
  go_wp2_with (first
    | (refine wpList_put1 22 rfl (.tmp 10) (.tmp 9) rfl 1 (.slice (some ⟨g, 0, none⟩) k c1) rfl rfl rfl boolsInfo1 _ HA1.out.c1 (HA1.out.frozen 1) ?_; intro w2 hw2
       have hg2 : w1.grownBy w2 (some w.heap.size) := by rw [hw2]; exact grown_set w1 w.heap.size 1 _
       have hA2 : SpBox w2 w.heap.size p (.slice (some ⟨g, 0, none⟩) k c1) := by rw [hw2]; exact HA1.out.put1 _
       have hO2 : Hid (OwnB w2 w0.heap.size (.slice (some ⟨g, 0, none⟩) k c1) l) := Boos.grownB HO1.out hg2 (by have := HBG.out; have := HZ.out; omega)
       have hR2 : Hid (SpBox w2 (w.heap.size + 1) 0 (.slice none 0 0)) := HR1.out.grown hg2 (by omega)
       have hB2 : Hid (Below w.heap.size w w2) := by rw [hw2]; exact HBW1.out.setCell (p := ⟨w.heap.size, 1, none⟩) (Nat.le_refl _) _
       have hd := hA2.c1
       have HA2 := Lib.hid hA2
       clear hw2 hg2 hca hA2)
    | (refine wpList_put1 4 rfl (.tmp 15) (.tmp 14) rfl n (.bool b) rfl rfl rfl boolInfo1 _ (own_cellB hO2.out (by have := HN.out; omega)) (own_frozenB hO2.out n) ?_; intro w3 hw3
       have hg3 : w2.grownBy w3 (some g) := by rw [hw3]; exact grown_set w2 g n _
       have hne : w.heap.size + 1 < g := by have := HBG.out; have := HZ.out; omega
       have hO3 : Hid (OwnB w3 w0.heap.size (.slice (some ⟨g, 0, none⟩) k c1) (l.set n b)) := by rw [hw3]; exact own_setB hO2.out HK.out.symm n b
       have hA3 : Hid (SpBox w3 w.heap.size p (.slice (some ⟨g, 0, none⟩) k c1)) := HA2.out.grown hg3 (by omega)
       have hR3 : Hid (SpBox w3 (w.heap.size + 1) 0 (.slice none 0 0)) := hR2.out.grown hg3 (by omega)
       have hB3 : Hid (Below w.heap.size w w3) := by rw [hw3]; exact hB2.out.setCell (p := ⟨g, n, none⟩) (by show w.heap.size ≤ g; omega) _
       clear hw3 hg3 hd)
    | (refine wpList_loadS hA3.out Try.underlying24 spInfo rfl _ rfl rfl ?_)
    | (refine wpList_storeS hR3.out spInfo rfl _ _ rfl rfl (ds := [.int .i64 p, .slice (some ⟨g, 0, none⟩) k c1]) rfl rfl (one_sp _ _ _ _) ?_; intro w4 hR4 hg4 hz4))
  refine ret_s1 hR4 Try.underlying24 spInfo rfl rfl rfl ?_
  exact ⟨_, rfl, OwnV.lower (Boos.grownB hO3.out hg4 (by omega)) HB0.out.size, hB3.out.grown hg4 hB3.out.size (fun k e => by cases e; omega)⟩
/-- A box of a space that came in, and one for the answer. -/
theorem two_boxes (w : World) (p : Int) (v : Value) : ∃ w0, (w.alloc (.cells #[.int .i64 p, v] 24)).alloc (.cells #[.int .i64 0, .slice none 0 0] 24) = w0 ∧ Below w.heap.size w w0 ∧ w0.heap.size = w.heap.size + 2 ∧ SpBox w0 w.heap.size p v ∧ SpBox w0 (w.heap.size + 1) 0 (.slice none 0 0) := by
  refine ⟨_, rfl, (below_new w _).trans ((below_new _ _).mono (by simp)), by simp, (SBox.new w 24 [.int .i64 p, v]).alloc _, ?_⟩
  have := SBox.new (w.alloc (.cells #[.int .i64 p, v] 24)) 24 [.int .i64 0, .slice none 0 0]
  rw [World.size_alloc] at this
  exact this
theorem nil_one (p : Int) : ∀ u ∈ [Value.int .i64 p, .slice none 0 0], u.oneCell' = true := one_sp p none 0 0
set_option maxHeartbeats 2000000 in
theorem spUse_any (w : World) (p : Int) (v : Value) (l : List Bool) (n : Int) (hv : Boos w v l) (hlen : l.length ≤ 70368744177664) :
    Calls Try.prog 9 #[.agg #[.int .i64 p, v], .int .i64 n] w (SpOut w (spUse p l n)) := by
  obtain ⟨w0, hw0, hb0, hz, hA, hR⟩ := two_boxes w p v
  have HCK := Lib.hid (spcheck_any w0 p v l (hv.below hb0) hlen)
  have HV := Lib.hid hv
  obtain ⟨A, m, c, rfl, N, hnc, hcm⟩ := hv.form
  have HB0 := Lib.hid hb0
  have HZ := Lib.hid hz
  have HW0 := Lib.hid hw0
  have HA := Lib.hid hA
  have HR := Lib.hid hR
  have HLEN := Lib.hid hlen
  clear hv hlen hb0 hz hw0 hA hR
  unfold spUse
  by_cases hok : spOk p l
  · rw [if_pos hok] at HCK
    by_cases hlo : n < 0
    · rw [if_pos (.inr (.inl hlo))]
      have HOK := Lib.hid hok
      clear hok

      go_enter Try.func9, Try.ntmps9
      go_wp2_with fail
      rw [HW0.out]
      refine (HCK.out).mono ?_
      rintro e w1 ⟨rfl, hb1⟩
      have HA1 : Hid (SpBox w1 w.heap.size p (.slice A m c)) := HA.out.below hb1
      have HR1 : Hid (SpBox w1 (w.heap.size + 1) 0 (.slice none 0 0)) := HR.out.below hb1
      have HBW1 : Hid (Below w.heap.size w w1) := HB0.out.trans (hb1.mono (by rw [HZ.out]; omega))
      have HB1 := Lib.hid hb1
      have ha0 := HA1.out.c0
      have ha1 := HA1.out.c1
      clear hb1
      go_wp2_with (refine wpList_storeS HR1.out spInfo rfl _ _ rfl rfl (ds := [.int .i64 0, .slice none 0 0]) rfl rfl (nil_one 0) ?_; intro w2 hR2 hg2 hz2)
      refine ret_s2 hR2 Try.underlying24 spInfo rfl rfl rfl _ rfl ?_
      exact ⟨_, rfl, OwnV.nil _ _ _, HBW1.out.grown hg2 HBW1.out.size (fun k e => by cases e; omega)⟩
    · by_cases hhi : p ≤ n
      · rw [if_pos (.inr (.inr hhi))]
        have HOK := Lib.hid hok
        clear hok

        go_enter Try.func9, Try.ntmps9
        go_wp2_with fail
        rw [HW0.out]
        refine (HCK.out).mono ?_
        rintro e w1 ⟨rfl, hb1⟩
        have HA1 : Hid (SpBox w1 w.heap.size p (.slice A m c)) := HA.out.below hb1
        have HR1 : Hid (SpBox w1 (w.heap.size + 1) 0 (.slice none 0 0)) := HR.out.below hb1
        have HBW1 : Hid (Below w.heap.size w w1) := HB0.out.trans (hb1.mono (by rw [HZ.out]; omega))
        have HB1 := Lib.hid hb1
        have ha0 := HA1.out.c0
        have ha1 := HA1.out.c1
        clear hb1
        go_wp2_with (refine wpList_storeS HR1.out spInfo rfl _ _ rfl rfl (ds := [.int .i64 0, .slice none 0 0]) rfl rfl (nil_one 0) ?_; intro w2 hR2 hg2 hz2)
        refine ret_s2 hR2 Try.underlying24 spInfo rfl rfl rfl _ rfl ?_
        exact ⟨_, rfl, OwnV.nil _ _ _, HBW1.out.grown hg2 HBW1.out.size (fun k e => by cases e; omega)⟩
      · rw [if_neg (fun h => h.elim (fun h => h hok) (fun h => h.elim hlo hhi))]
        obtain ⟨j, rfl⟩ := Int.eq_ofNat_of_zero_le (show 0 ≤ n by omega)
        rw [Int.toNat_natCast]
        have hl := spOk_len hok
        have hjl : j < l.length := by omega
        have hjm : (j : Int) < (m : Int) := by have := N.out; omega
        have hq : l[j]? = some l[j] := List.getElem?_eq_getElem hjl
        have HCELL : Hid (∀ W, Below w.heap.size w W → ∃ b off, A = some ⟨b, off, none⟩ ∧ b < W.heap.size ∧ W.cell? ⟨b, off + j, none⟩ = some (.bool l[j])) := by
          intro W h
          obtain ⟨b, off, e, hb, hc⟩ := (HV.out.below h).at hjl
          exact ⟨b, off, e, hb, hc j hjl⟩
        have HWI : Hid (∀ W, Below w.heap.size w W → Calls Try.prog 33 #[.agg #[.int .i64 p, .slice A m c], .int .i64 (j : Int), .bool true] W (SpMade W p (l.set j true))) := fun W h => spwith_any W p _ l j true (HV.out.below h) HLEN.out hjl
        have HOK := Lib.hid hok
        have HJ := Lib.hid hjl
        clear hok hl
        generalize hbj : l[j] = bj at *
        rw [hq]
        clear hbj hq hjl
        cases bj with
        | true =>
          rw [if_pos rfl]

          go_enter Try.func9, Try.ntmps9
          go_wp2_with fail
          rw [HW0.out]
          refine (HCK.out).mono ?_
          rintro e w1 ⟨rfl, hb1⟩
          have HA1 : Hid (SpBox w1 w.heap.size p (.slice A m c)) := HA.out.below hb1
          have HR1 : Hid (SpBox w1 (w.heap.size + 1) 0 (.slice none 0 0)) := HR.out.below hb1
          have HBW1 : Hid (Below w.heap.size w w1) := HB0.out.trans (hb1.mono (by rw [HZ.out]; omega))
          have HB1 := Lib.hid hb1
          have ha0 := HA1.out.c0
          have ha1 := HA1.out.c1
          clear hb1
          obtain ⟨bl, off, rfl, hbl, hcell⟩ := HCELL.out w1 HBW1.out
          go_wp2_with (refine wpList_storeS HR1.out spInfo rfl _ _ rfl rfl (ds := [.int .i64 0, .slice none 0 0]) rfl rfl (nil_one 0) ?_; intro w2 hR2 hg2 hz2)
          refine ret_s2 hR2 Try.underlying24 spInfo rfl rfl rfl _ rfl ?_
          exact ⟨_, rfl, OwnV.nil _ _ _, HBW1.out.grown hg2 HBW1.out.size (fun k e => by cases e; omega)⟩
        | false =>
          rw [if_neg (by simp)]

          go_enter Try.func9, Try.ntmps9
          go_wp2_with fail
          rw [HW0.out]
          refine (HCK.out).mono ?_
          rintro e w1 ⟨rfl, hb1⟩
          have HA1 : Hid (SpBox w1 w.heap.size p (.slice A m c)) := HA.out.below hb1
          have HR1 : Hid (SpBox w1 (w.heap.size + 1) 0 (.slice none 0 0)) := HR.out.below hb1
          have HBW1 : Hid (Below w.heap.size w w1) := HB0.out.trans (hb1.mono (by rw [HZ.out]; omega))
          have HB1 := Lib.hid hb1
          have ha0 := HA1.out.c0
          have ha1 := HA1.out.c1
          clear hb1
          obtain ⟨bl, off, rfl, hbl, hcell⟩ := HCELL.out w1 HBW1.out
          go_wp2_with fail
          refine (HWI.out w1 HBW1.out).mono ?_
          rintro e w2 ⟨x, rfl, hx2, hb2⟩
          have HR2 : Hid (SpBox w2 (w.heap.size + 1) 0 (.slice none 0 0)) := HR1.out.below hb2
          have HBW2 : Hid (Below w.heap.size w w2) := HBW1.out.trans (hb2.mono HBW1.out.size)
          obtain ⟨Ax, nx, cx, rfl, NX, _, _⟩ := hx2.boos.form
          have HX2 := Lib.hid hx2
          have HXB : Hid ((Value.slice Ax nx cx).ownBlock ≠ some (w.heap.size + 1)) := fun hk => by have := (World.ownsRow.lt HX2.out _ hk).1; have := HR1.out.lt; omega
          clear hx2 hb2
          go_wp2_with (refine wpList_storeS HR2.out spInfo rfl _ _ rfl rfl (ds := [.int .i64 p, .slice Ax nx cx]) rfl rfl (one_sp p Ax nx cx) ?_; intro w3 hR3 hg3 hz3)
          refine ret_s2 hR3 Try.underlying24 spInfo rfl rfl rfl _ rfl ?_
          exact ⟨_, rfl, OwnV.lower (World.ownsRow.kept HX2.out hg3 (.inr HXB.out)) HBW1.out.size, HBW2.out.grown hg3 HBW2.out.size (fun k e => by cases e; omega)⟩
  · rw [if_pos (.inl hok)]
    rw [if_neg hok] at HCK
    have HOK := Lib.hid hok
    clear hok

    go_enter Try.func9, Try.ntmps9
    go_wp2_with fail
    rw [HW0.out]
    refine (HCK.out).mono ?_
    rintro e w1 ⟨rfl, hb1⟩
    have HA1 : Hid (SpBox w1 w.heap.size p (.slice A m c)) := HA.out.below hb1
    have HR1 : Hid (SpBox w1 (w.heap.size + 1) 0 (.slice none 0 0)) := HR.out.below hb1
    have HBW1 : Hid (Below w.heap.size w w1) := HB0.out.trans (hb1.mono (by rw [HZ.out]; omega))
    have HB1 := Lib.hid hb1
    have ha0 := HA1.out.c0
    have ha1 := HA1.out.c1
    clear hb1
    go_wp2_with (refine wpList_storeS HR1.out spInfo rfl _ _ rfl rfl (ds := [.int .i64 0, .slice none 0 0]) rfl rfl (nil_one 0) ?_; intro w2 hR2 hg2 hz2)
    refine ret_s2 hR2 Try.underlying24 spInfo rfl rfl rfl _ rfl ?_
    exact ⟨_, rfl, OwnV.nil _ _ _, HBW1.out.grown hg2 HBW1.out.size (fun k e => by cases e; omega)⟩
set_option maxHeartbeats 2000000 in
theorem spGive_any (w : World) (p : Int) (v : Value) (l : List Bool) (n : Int) (hv : Boos w v l) (hlen : l.length ≤ 70368744177664) :
    Calls Try.prog 10 #[.agg #[.int .i64 p, v], .int .i64 n] w (SpOut w (spGive p l n)) := by
  obtain ⟨w0, hw0, hb0, hz, hA, hR⟩ := two_boxes w p v
  have HCK := Lib.hid (spcheck_any w0 p v l (hv.below hb0) hlen)
  have HV := Lib.hid hv
  obtain ⟨A, m, c, rfl, N, hnc, hcm⟩ := hv.form
  have HB0 := Lib.hid hb0
  have HZ := Lib.hid hz
  have HW0 := Lib.hid hw0
  have HA := Lib.hid hA
  have HR := Lib.hid hR
  have HLEN := Lib.hid hlen
  clear hv hlen hb0 hz hw0 hA hR
  unfold spGive
  by_cases hok : spOk p l
  · rw [if_pos hok] at HCK
    by_cases hlo : n < 2
    · rw [if_pos (.inr (.inl hlo))]
      have HOK := Lib.hid hok
      clear hok

      go_enter Try.func10, Try.ntmps10
      go_wp2_with fail
      rw [HW0.out]
      refine (HCK.out).mono ?_
      rintro e w1 ⟨rfl, hb1⟩
      have HA1 : Hid (SpBox w1 w.heap.size p (.slice A m c)) := HA.out.below hb1
      have HR1 : Hid (SpBox w1 (w.heap.size + 1) 0 (.slice none 0 0)) := HR.out.below hb1
      have HBW1 : Hid (Below w.heap.size w w1) := HB0.out.trans (hb1.mono (by rw [HZ.out]; omega))
      have HB1 := Lib.hid hb1
      have ha0 := HA1.out.c0
      have ha1 := HA1.out.c1
      clear hb1
      go_wp2_with (refine wpList_storeS HR1.out spInfo rfl _ _ rfl rfl (ds := [.int .i64 0, .slice none 0 0]) rfl rfl (nil_one 0) ?_; intro w2 hR2 hg2 hz2)
      refine ret_s2 hR2 Try.underlying24 spInfo rfl rfl rfl _ rfl ?_
      exact ⟨_, rfl, OwnV.nil _ _ _, HBW1.out.grown hg2 HBW1.out.size (fun k e => by cases e; omega)⟩
    · by_cases hhi : p ≤ n
      · rw [if_pos (.inr (.inr hhi))]
        have HOK := Lib.hid hok
        clear hok

        go_enter Try.func10, Try.ntmps10
        go_wp2_with fail
        rw [HW0.out]
        refine (HCK.out).mono ?_
        rintro e w1 ⟨rfl, hb1⟩
        have HA1 : Hid (SpBox w1 w.heap.size p (.slice A m c)) := HA.out.below hb1
        have HR1 : Hid (SpBox w1 (w.heap.size + 1) 0 (.slice none 0 0)) := HR.out.below hb1
        have HBW1 : Hid (Below w.heap.size w w1) := HB0.out.trans (hb1.mono (by rw [HZ.out]; omega))
        have HB1 := Lib.hid hb1
        have ha0 := HA1.out.c0
        have ha1 := HA1.out.c1
        clear hb1
        go_wp2_with (refine wpList_storeS HR1.out spInfo rfl _ _ rfl rfl (ds := [.int .i64 0, .slice none 0 0]) rfl rfl (nil_one 0) ?_; intro w2 hR2 hg2 hz2)
        refine ret_s2 hR2 Try.underlying24 spInfo rfl rfl rfl _ rfl ?_
        exact ⟨_, rfl, OwnV.nil _ _ _, HBW1.out.grown hg2 HBW1.out.size (fun k e => by cases e; omega)⟩
      · rw [if_neg (fun h => h.elim (fun h => h hok) (fun h => h.elim hlo hhi))]
        obtain ⟨j, rfl⟩ := Int.eq_ofNat_of_zero_le (show 0 ≤ n by omega)
        rw [Int.toNat_natCast]
        have hl := spOk_len hok
        have hjl : j < l.length := by omega
        have hjm : (j : Int) < (m : Int) := by have := N.out; omega
        have hq : l[j]? = some l[j] := List.getElem?_eq_getElem hjl
        have HCELL : Hid (∀ W, Below w.heap.size w W → ∃ b off, A = some ⟨b, off, none⟩ ∧ b < W.heap.size ∧ W.cell? ⟨b, off + j, none⟩ = some (.bool l[j])) := by
          intro W h
          obtain ⟨b, off, e, hb, hc⟩ := (HV.out.below h).at hjl
          exact ⟨b, off, e, hb, hc j hjl⟩
        have HWI : Hid (∀ W, Below w.heap.size w W → Calls Try.prog 33 #[.agg #[.int .i64 p, .slice A m c], .int .i64 (j : Int), .bool false] W (SpMade W p (l.set j false))) := fun W h => spwith_any W p _ l j false (HV.out.below h) HLEN.out hjl
        have HOK := Lib.hid hok
        have HJ := Lib.hid hjl
        clear hok hl
        generalize hbj : l[j] = bj at *
        rw [hq]
        clear hbj hq hjl
        cases bj with
        | false =>
          rw [if_pos rfl]

          go_enter Try.func10, Try.ntmps10
          go_wp2_with fail
          rw [HW0.out]
          refine (HCK.out).mono ?_
          rintro e w1 ⟨rfl, hb1⟩
          have HA1 : Hid (SpBox w1 w.heap.size p (.slice A m c)) := HA.out.below hb1
          have HR1 : Hid (SpBox w1 (w.heap.size + 1) 0 (.slice none 0 0)) := HR.out.below hb1
          have HBW1 : Hid (Below w.heap.size w w1) := HB0.out.trans (hb1.mono (by rw [HZ.out]; omega))
          have HB1 := Lib.hid hb1
          have ha0 := HA1.out.c0
          have ha1 := HA1.out.c1
          clear hb1
          obtain ⟨bl, off, rfl, hbl, hcell⟩ := HCELL.out w1 HBW1.out
          go_wp2_with (refine wpList_storeS HR1.out spInfo rfl _ _ rfl rfl (ds := [.int .i64 0, .slice none 0 0]) rfl rfl (nil_one 0) ?_; intro w2 hR2 hg2 hz2)
          refine ret_s2 hR2 Try.underlying24 spInfo rfl rfl rfl _ rfl ?_
          exact ⟨_, rfl, OwnV.nil _ _ _, HBW1.out.grown hg2 HBW1.out.size (fun k e => by cases e; omega)⟩
        | true =>
          rw [if_neg (by simp)]

          go_enter Try.func10, Try.ntmps10
          go_wp2_with fail
          rw [HW0.out]
          refine (HCK.out).mono ?_
          rintro e w1 ⟨rfl, hb1⟩
          have HA1 : Hid (SpBox w1 w.heap.size p (.slice A m c)) := HA.out.below hb1
          have HR1 : Hid (SpBox w1 (w.heap.size + 1) 0 (.slice none 0 0)) := HR.out.below hb1
          have HBW1 : Hid (Below w.heap.size w w1) := HB0.out.trans (hb1.mono (by rw [HZ.out]; omega))
          have HB1 := Lib.hid hb1
          have ha0 := HA1.out.c0
          have ha1 := HA1.out.c1
          clear hb1
          obtain ⟨bl, off, rfl, hbl, hcell⟩ := HCELL.out w1 HBW1.out
          go_wp2_with fail
          refine (HWI.out w1 HBW1.out).mono ?_
          rintro e w2 ⟨x, rfl, hx2, hb2⟩
          have HR2 : Hid (SpBox w2 (w.heap.size + 1) 0 (.slice none 0 0)) := HR1.out.below hb2
          have HBW2 : Hid (Below w.heap.size w w2) := HBW1.out.trans (hb2.mono HBW1.out.size)
          obtain ⟨Ax, nx, cx, rfl, NX, _, _⟩ := hx2.boos.form
          have HX2 := Lib.hid hx2
          have HXB : Hid ((Value.slice Ax nx cx).ownBlock ≠ some (w.heap.size + 1)) := fun hk => by have := (World.ownsRow.lt HX2.out _ hk).1; have := HR1.out.lt; omega
          clear hx2 hb2
          go_wp2_with (refine wpList_storeS HR2.out spInfo rfl _ _ rfl rfl (ds := [.int .i64 p, .slice Ax nx cx]) rfl rfl (one_sp p Ax nx cx) ?_; intro w3 hR3 hg3 hz3)
          refine ret_s2 hR3 Try.underlying24 spInfo rfl rfl rfl _ rfl ?_
          exact ⟨_, rfl, OwnV.lower (World.ownsRow.kept HX2.out hg3 (.inr HXB.out)) HBW1.out.size, HBW2.out.grown hg3 HBW2.out.size (fun k e => by cases e; omega)⟩
  · rw [if_pos (.inl hok)]
    rw [if_neg hok] at HCK
    have HOK := Lib.hid hok
    clear hok

    go_enter Try.func10, Try.ntmps10
    go_wp2_with fail
    rw [HW0.out]
    refine (HCK.out).mono ?_
    rintro e w1 ⟨rfl, hb1⟩
    have HA1 : Hid (SpBox w1 w.heap.size p (.slice A m c)) := HA.out.below hb1
    have HR1 : Hid (SpBox w1 (w.heap.size + 1) 0 (.slice none 0 0)) := HR.out.below hb1
    have HBW1 : Hid (Below w.heap.size w w1) := HB0.out.trans (hb1.mono (by rw [HZ.out]; omega))
    have HB1 := Lib.hid hb1
    have ha0 := HA1.out.c0
    have ha1 := HA1.out.c1
    clear hb1
    go_wp2_with (refine wpList_storeS HR1.out spInfo rfl _ _ rfl rfl (ds := [.int .i64 0, .slice none 0 0]) rfl rfl (nil_one 0) ?_; intro w2 hR2 hg2 hz2)
    refine ret_s2 hR2 Try.underlying24 spInfo rfl rfl rfl _ rfl ?_
    exact ⟨_, rfl, OwnV.nil _ _ _, HBW1.out.grown hg2 HBW1.out.size (fun k e => by cases e; omega)⟩

def newL (m k : Nat) : List Bool := List.replicate k true ++ List.replicate (m - k) false
theorem newL_len {m k : Nat} (h : k ≤ m) : (newL m k).length = m := by simp [newL]; omega
theorem newL_set {m k : Nat} (h : k < m) : (newL m k).set k true = newL m (k + 1) := by
  unfold newL
  rw [List.set_append_right _ _ (by simp), List.length_replicate, Nat.sub_self, show m - k = (m - (k + 1)) + 1 by omega, List.replicate_succ, List.set_cons_zero, List.replicate_succ']
  simp
def NewRel (w : World) (p : Int) (m g b : Nat) (i : Value) (wr : World) : Prop :=
  ∃ k : Nat, k ≤ 2 ∧ i = .int .i64 (k : Int) ∧ SpBox wr w.heap.size 0 (.slice none 0 0) ∧ SpBox wr b p (.slice (some ⟨g, 0, none⟩) m m) ∧ OwnB wr w.heap.size (.slice (some ⟨g, 0, none⟩) m m) (newL m k) ∧ Below w.heap.size w wr
set_option maxHeartbeats 2000000 in
theorem spNew_any (w : World) (p : Int) : Calls Try.prog 8 #[.int .i64 p] w (SpOut w (spNew p)) := by
  obtain ⟨i0, hi0, hz0, hz1, hz2⟩ := info_parts binfo
  have HS := Lib.hid (issize_any p)
  obtain ⟨w0, hw0⟩ : ∃ w0, w.alloc (.cells #[.int .i64 0, .slice none 0 0] 24) = w0 := ⟨_, rfl⟩
  have hR : SpBox w0 w.heap.size 0 (.slice none 0 0) := hw0 ▸ SBox.new w 24 [.int .i64 0, .slice none 0 0]
  have hb0 : Below w.heap.size w w0 := hw0 ▸ below_new w _
  have hz : w0.heap.size = w.heap.size + 1 := by rw [← hw0]; simp
  have HW0 := Lib.hid hw0
  have HR := Lib.hid hR
  have HB0 := Lib.hid hb0
  have HZ := Lib.hid hz
  clear hw0 hR hb0 hz
  unfold spNew
  by_cases hs : 8 ≤ p ∧ p ≤ 4096
  · rw [if_pos hs]
    have hsz : szB p = true := by unfold szB; simpa using hs
    rw [hsz] at HS
    obtain ⟨m, rfl⟩ := Int.eq_ofNat_of_zero_le (show 0 ≤ p by omega)
    obtain ⟨h8, h4⟩ := hs
    have HL : Hid (true :: true :: List.replicate ((m : Int).toNat - 2) false = newL m 2) := rfl
    rw [HL.out]
    clear hsz
    go_enter Try.func8, Try.ntmps8
    go_wp2_with fail
    rw [HW0.out]
    refine (HS.out _).mono ?_
    rintro e w1 ⟨rfl, rfl⟩
    go_wp2_with (first
      | (at_make; refine wpList_make_full _ rfl _ _ 22 rfl w.heap.size 4 i0 _ 1 Try.underlying22 hi0 hz0 hz1 _ _ _ _ m rfl rfl (by omega) (by omega) (by rw [hz2]; omega) (by simp only [maxLen]; omega) (by have := HB0.out.size; omega) ?_; intro w1 hown1 hg1
         have hO1 : Hid (OwnB w1 w.heap.size (.slice (some ⟨w0.heap.size, 0, none⟩) m m) (newL m 0)) := by
           have := OwnV.made rfl hown1
           unfold OwnB
           rw [show booC (newL m 0) = List.replicate m (.bool false) by simp [newL, booC]]
           exact this
         have hR1 : Hid (SpBox w1 w.heap.size 0 (.slice none 0 0)) := HR.out.below (below_none hg1)
         have hB1 : Hid (Below w.heap.size w w1) := HB0.out.trans ((below_none hg1).mono HB0.out.size)
         clear hown1 hg1)
      | (refine wpList_storeS (SBox.new w1 24 [.int .i64 0, .slice none 0 0]) spInfo rfl _ _ rfl rfl (ds := [.int .i64 m, .slice (some ⟨w0.heap.size, 0, none⟩) m m]) rfl rfl (one_sp _ _ _ _) ?_; intro w2 hS2 hg2 hz2
         have hlt1 := hR1.out.lt
         have hgl : w0.heap.size < w1.heap.size := (OwnV.form hO1.out (by rw [booC_len, newL_len (by omega)]; omega)).elim fun g h => h.elim fun c h => by
           have e := h.1
           injection e with e1 _ _
           injection e1 with e1
           injection e1 with e1 _ _
           rw [e1]
           exact h.2.2.1
         have hO2 : Hid (OwnB w2 w.heap.size (.slice (some ⟨w0.heap.size, 0, none⟩) m m) (newL m 0)) := Boos.grownB (World.ownsRow.alloc hO1.out _) hg2 (by omega)
         have hR2 : Hid (SpBox w2 w.heap.size 0 (.slice none 0 0)) := (hR1.out.alloc _).grown hg2 (by omega)
         have hB2 : Hid (Below w.heap.size w w2) := (hB1.out.alloc hB1.out.size _).grown hg2 (by have := hB1.out.size; rw [World.size_alloc]; omega) (fun k e => by cases e; exact hB1.out.size)
         have HNE : Hid (w0.heap.size < w1.heap.size ∧ w.heap.size < w0.heap.size) := ⟨hgl, by have := HZ.out; omega⟩
         have HS2 := Lib.hid hS2
         clear hS2 hg2 hz2 hlt1 hgl))
    go_loopw [14] (fun i wr => NewRel w m m w0.heap.size w1.heap.size i wr) (fun i _ => 2 - (intOf i).toNat)
    case atStart => exact ⟨0, by omega, rfl, hR2.out, HS2.out, hO2.out, hB2.out⟩
    case round =>
      obtain ⟨k, hk, rfl, hRr, hSr, hOr, hBr⟩ := hrel
      have HRr := Lib.hid hRr
      have HSr := Lib.hid hSr
      have HOr := Lib.hid hOr
      have HBr := Lib.hid hBr
      have c1 := hSr.c1
      clear hRr hSr hOr hBr
      by_cases hlt : k < 2
      · have hkm : (k : Int) < (m : Int) := by omega
        go_wp2_with (first
         | (refine wpList_put1 4 rfl (.tmp 20) _ rfl k (.bool true) rfl rfl rfl boolInfo1 _ (own_cellB HOr.out (by rw [newL_len (by omega)]; omega)) (own_frozenB HOr.out k) ?_; intro w3 hw3
            have hg3 : wr.grownBy w3 (some w0.heap.size) := by rw [hw3]; exact grown_set wr _ k _
            have hR3 : Hid (SpBox w3 w.heap.size 0 (.slice none 0 0)) := HRr.out.grown hg3 (by have := HNE.out; omega)
            have hS3 : Hid (SpBox w3 w1.heap.size m (.slice (some ⟨w0.heap.size, 0, none⟩) m m)) := HSr.out.grown hg3 (by have := HNE.out; omega)
            have hO3 : Hid (OwnB w3 w.heap.size (.slice (some ⟨w0.heap.size, 0, none⟩) m m) (newL m (k + 1))) := by rw [hw3, ← newL_set (by omega)]; exact own_setB HOr.out (newL_len (by omega)) k true
            have hB3 : Hid (Below w.heap.size w w3) := by rw [hw3]; exact HBr.out.setCell (p := ⟨w0.heap.size, k, none⟩) (by have := HNE.out; show w.heap.size ≤ w0.heap.size; omega) _
            clear hw3 hg3 c1))
        go_roundw
        case rel => exact ⟨k + 1, by omega, by go_num, hR3.out, hS3.out, hO3.out, hB3.out⟩
        case measure => simp [intOf]; omega
      · obtain rfl : k = 2 := by omega
        go_wp2_with (first
          | (refine wpList_loadS HSr.out Try.underlying24 spInfo rfl _ rfl rfl ?_)
          | (refine wpList_storeS HRr.out spInfo rfl _ _ rfl rfl (ds := [.int .i64 m, .slice (some ⟨w0.heap.size, 0, none⟩) m m]) rfl rfl (one_sp _ _ _ _) ?_; intro w3 hR3 hg3 hz3))
        refine ret_s2 hR3 Try.underlying24 spInfo rfl rfl rfl _ rfl ?_
        exact ⟨_, rfl, Boos.grownB HOr.out hg3 (by have := HNE.out; omega), HBr.out.grown hg3 HBr.out.size (fun k e => by cases e; omega)⟩
  · rw [if_neg hs]
    have hsz : szB p = false := by unfold szB; simpa using hs
    rw [hsz] at HS
    clear hs hsz
    go_enter Try.func8, Try.ntmps8
    go_wp2_with fail
    rw [HW0.out]
    refine (HS.out _).mono ?_
    rintro e w1 ⟨rfl, rfl⟩
    go_wp2_with (refine wpList_storeS HR.out spInfo rfl _ _ rfl rfl (ds := [.int .i64 0, .slice none 0 0]) rfl rfl (nil_one 0) ?_; intro w2 hR2 hg2 hz2)
    refine ret_s2 hR2 Try.underlying24 spInfo rfl rfl rfl _ rfl ?_
    exact ⟨_, rfl, OwnV.nil _ _ _, HB0.out.grown hg2 HB0.out.size (fun k e => by cases e; omega)⟩
end Go.Proofs.Ytncjobeahpjnpaa
