/-
  The statement SpaceCounts: pages used and given back one by one: Count goes down and up by one; behind all, turned back, the same. Conditions: none.
-/
import Derived.Test.YtncjobeahpjnpaaSpL
import Derived.Test.YtncjobeahpjnpaaOrdF
namespace Go.Proofs.Ytncjobeahpjnpaa.spaceCounts
open Go.ChangeShapes Go.WideShapes Go.ChangeAt Go.RowKit Go.Maps
set_option maxRecDepth 100000
set_option linter.unusedVariables false
set_option linter.unusedSimpArgs false

/-- The pages named so far, in a row of the call's own. -/
def Done (w : World) (B : Nat) (v : Value) (ds : List Nat) : Prop := OwnV w B 3 v (natC ds)
theorem Done.below {w w' : World} {B : Nat} {v : Value} {ds : List Nat} (h : Done w B v ds) (hb : Below w.heap.size w w') : Done w' B v ds := OwnV.keep h hb
theorem Rowz.grownO {w w' : World} {v : Value} {vs : List Value} {ob : Option Nat} (h : Rowz w v vs) (hg : w.grownBy w' ob) (hne : ∀ k, v.ownBlock = some k → ob ≠ some k) : Rowz w' v vs := by
  obtain ⟨A, c, rfl, h1, h2, h3⟩ := h
  refine ⟨A, c, rfl, h1, h2, ?_⟩
  rcases h3 with h3 | ⟨b, off, rfl, hb, hc⟩
  · exact .inl h3
  · refine .inr ⟨b, off, rfl, Nat.lt_of_lt_of_le hb hg.size, fun j hj => ?_⟩
    rw [← hc j hj]
    exact World.cell?_of_block (a := ⟨b, off + j, none⟩) (hg.block b hb (fun e => hne b (by simp [Value.ownBlock]) (by first | exact e | exact e.symm)))
theorem SBox.grownO {w w' : World} {g : Nat} {ob : Option Nat} {t : TypeId} {cs : List Value} (h : SBox w g t cs) (hg : w.grownBy w' ob) (hne : ob ≠ some g) : SBox w' g t cs :=
  h.same (hg.block g h.lt (fun e => hne (by first | exact e | exact e.symm)))
/-- Between two rounds of the first loop. -/
structure CnAt (w : World) (nb : Nat) (p : Int) (l : List Bool) (A : Option Addr) (n c : Nat) (m : List Bool) (An : Option Addr) (nn cn : Nat) (ds : List Nat) (dv : Value) (u : World) : Prop where
  s : SpBox u w.heap.size p (.slice A n c)
  now : SpBox u nb p (.slice An nn cn)
  lm : Boos u (.slice An nn cn) m
  ok : spOk p m
  un : undo m ds = l
  lo : ∀ d ∈ ds, 2 ≤ d ∧ (d : Int) < p
  own : Done u (nb + 1) dv ds
  bel : Below w.heap.size w u
  gt : w.heap.size < nb
def CnRel (w : World) (nb : Nat) (p : Int) (l : List Bool) (A : Option Addr) (n c : Nat) (z : Nat) (dv i : Value) (u : World) : Prop :=
  ∃ (k : Nat) (m : List Bool) (An : Option Addr) (nn cn : Nat) (ds : List Nat), k ≤ z ∧ i = .int .i64 (k : Int) ∧ ds.length ≤ k ∧ CnAt w nb p l A n c m An nn cn ds dv u
/-- Between two rounds of the last loop: so many are still to be turned back. -/
structure BkAt (w : World) (nb : Nat) (p : Int) (l : List Bool) (A : Option Addr) (n c : Nat) (m : List Bool) (An : Option Addr) (nn cn : Nat) (ds : List Nat) (dv : Value) (j : Nat) (u : World) : Prop where
  s : SpBox u w.heap.size p (.slice A n c)
  now : SpBox u nb p (.slice An nn cn)
  lm : Boos u (.slice An nn cn) m
  ok : spOk p m
  un : undo m (ds.take j) = l
  own : Done u (nb + 1) dv ds
  bel : Below w.heap.size w u
def BkRel (w : World) (nb : Nat) (p : Int) (l : List Bool) (A : Option Addr) (n c : Nat) (ds : List Nat) (dv i : Value) (u : World) : Prop :=
  (∃ (m : List Bool) (An : Option Addr) (nn cn : Nat), i = .int .i64 (-1) ∧ BkAt w nb p l A n c m An nn cn ds dv 0 u) ∨
  (∃ (j : Nat) (m : List Bool) (An : Option Addr) (nn cn : Nat), j < ds.length ∧ i = .int .i64 (j : Int) ∧ BkAt w nb p l A n c m An nn cn ds dv (j + 1) u)
theorem bk_mk {w : World} {nb : Nat} {p : Int} {l : List Bool} {A : Option Addr} {n c : Nat} {ds : List Nat} {dv : Value} {m : List Bool} {An : Option Addr} {nn cn j : Nat} {u : World} (hj : j ≤ ds.length) (h : BkAt w nb p l A n c m An nn cn ds dv j u) : BkRel w nb p l A n c ds dv (.int .i64 ((j : Int) - 1)) u := by
  cases j with
  | zero => exact .inl ⟨_, _, _, _, rfl, h⟩
  | succ j => exact .inr ⟨j, _, _, _, _, hj, by rw [show ((j + 1 : Nat) : Int) - 1 = (j : Int) by omega], h⟩
theorem free_le (l : List Bool) : (spFree l).length ≤ l.length := by
  have : (spFree l).length ≤ (List.range l.length).length := List.length_filter_le _ _
  rwa [List.length_range] at this
set_option maxRecDepth 100000 in
set_option maxHeartbeats 16000000 in
theorem walk (w : World) (p : Int) (v : Value) (l : List Bool) (lv : Value) (zs : List Int) (hv : Boos w v l) (hp : -9223372036854775808 ≤ p ∧ p ≤ 9223372036854775807) (hz : Rowz w lv (zs.map (Value.int .i64))) :
    Calls Try.prog 7 #[.agg #[.int .i64 p, v], lv] w fun e w' => e = .returned (.bool true) ∧ Below w.heap.size w w' := by
  obtain ⟨w0, hw0⟩ : ∃ w0, w.alloc (.cells #[.int .i64 p, v] 24) = w0 := ⟨_, rfl⟩
  have hb0 : Below w.heap.size w w0 := hw0 ▸ below_new w _
  have hS : SpBox w0 w.heap.size p v := hw0 ▸ SBox.new w 24 [.int .i64 p, v]
  obtain ⟨A, n, c, rfl, N, hnc, hcm⟩ := hv.form
  have hz' : Rowz w lv (intC zs) := hz
  obtain ⟨Az, nz, cz, rfl, NZ, hncz, hcmz⟩ := hz'.form
  have LS0 : Hid (Boos w0 (.slice A n c) l) := hv.below hb0
  have LZ0 : Hid (Rowz w0 (.slice Az nz cz) (intC zs)) := hz'.below hb0
  have S0 := Lib.hid hS
  have HB0 := Lib.hid hb0
  have HW0 := Lib.hid hw0
  have HVW := Lib.hid hv
  have HZW : Hid (Rowz w (.slice Az nz cz) (intC zs)) := hz'
  obtain ⟨i0, hi0, hz0, hz1, hz2⟩ := info_parts iinfo
  have HI0 : Hid (∃ i, Try.prog.info? 3 = some i ∧ i.zero = some (.int .i64 0) ∧ i.size = 1 ∧ i.bytes = 8) := ⟨i0, hi0, hz0, hz1, hz2⟩
  clear hv hz hz' hb0 hS hw0 hp hi0 hz0 hz1 hz2
  clear i0
  by_cases hn : (300 : Int) < (n : Int)
  · clear hncz hcmz
    go_enter Try.func7, Try.ntmps7
    go_wp2_with fail
    rw [HW0.out]
    refine (lives8_any w0).mono ?_
    rintro e w1 ⟨rfl, hb1⟩
    have HB1 : Hid (Below w.heap.size w w1) := HB0.out.trans (hb1.mono HB0.out.size)
    have LS1 : Hid (Boos w1 (.slice A n c) l) := LS0.out.below hb1
    have LZ1 : Hid (Rowz w1 (.slice Az nz cz) (intC zs)) := LZ0.out.below hb1
    have S1 : Hid (SpBox w1 (w.heap.size) (p) (.slice A n c)) := S0.out.below hb1
    clear hb1
    have pS := S1.out.c0
    have rS := S1.out.c1
    go_wp2_with fail
    clear pS rS
    go_ret
    exact ⟨rfl, HB1.out⟩
  · by_cases hm : (60 : Int) < (nz : Int)
    · clear hncz hcmz
      go_enter Try.func7, Try.ntmps7
      go_wp2_with fail
      rw [HW0.out]
      refine (lives8_any w0).mono ?_
      rintro e w1 ⟨rfl, hb1⟩
      have HB1 : Hid (Below w.heap.size w w1) := HB0.out.trans (hb1.mono HB0.out.size)
      have LS1 : Hid (Boos w1 (.slice A n c) l) := LS0.out.below hb1
      have LZ1 : Hid (Rowz w1 (.slice Az nz cz) (intC zs)) := LZ0.out.below hb1
      have S1 : Hid (SpBox w1 (w.heap.size) (p) (.slice A n c)) := S0.out.below hb1
      clear hb1
      have pS := S1.out.c0
      have rS := S1.out.c1
      go_wp2_with fail
      clear pS rS
      go_ret
      exact ⟨rfl, HB1.out⟩
    · have HN : Hid (l.length ≤ 300) := by have : n = l.length := N.out; show _ ≤ _; omega
      have HLL : Hid (l.length ≤ 70368744177664) := by have := HN.out; show _ ≤ _; omega
      have HZ6 : Hid (zs.length ≤ 60) := by have : nz = zs.length := NZ.out.trans (intC_len zs); show _ ≤ _; omega
      by_cases hok : spOk p l
      · have HCS : Hid ((if spOk p l then (0 : Int) else 2) = 0) := if_pos hok
        have HOK := Lib.hid hok
        clear hok
        go_enter Try.func7, Try.ntmps7
        go_wp2_with fail
        rw [HW0.out]
        refine (lives8_any w0).mono ?_
        rintro e w1 ⟨rfl, hb1⟩
        have HB1 : Hid (Below w.heap.size w w1) := HB0.out.trans (hb1.mono HB0.out.size)
        have LS1 : Hid (Boos w1 (.slice A n c) l) := LS0.out.below hb1
        have LZ1 : Hid (Rowz w1 (.slice Az nz cz) (intC zs)) := LZ0.out.below hb1
        have S1 : Hid (SpBox w1 (w.heap.size) (p) (.slice A n c)) := S0.out.below hb1
        clear hb1
        have pS := S1.out.c0
        have rS := S1.out.c1
        go_wp2_with fail
        clear pS rS
        refine (HCS.out ▸ spcheck_any w1 p _ l LS1.out HLL.out).mono ?_
        rintro e w2 ⟨rfl, hb2⟩
        have HB2 : Hid (Below w.heap.size w w2) := HB1.out.trans (hb2.mono HB1.out.size)
        have LS2 : Hid (Boos w2 (.slice A n c) l) := LS1.out.below hb2
        have LZ2 : Hid (Rowz w2 (.slice Az nz cz) (intC zs)) := LZ1.out.below hb2
        have S2 : Hid (SpBox w2 (w.heap.size) (p) (.slice A n c)) := S1.out.below hb2
        clear hb2
        obtain ⟨w4, hw4⟩ : ∃ u, w2.alloc (.cells #[.int .i64 p, .slice A n c] 24) = u := ⟨_, rfl⟩
        have HW4 := Lib.hid hw4
        have hb4 : Below w2.heap.size w2 w4 := hw4 ▸ below_new _ _
        have HB4 : Hid (Below w.heap.size w w4) := HB2.out.trans (hb4.mono HB2.out.size)
        have LS4 : Hid (Boos w4 (.slice A n c) l) := LS2.out.below hb4
        have LZ4 : Hid (Rowz w4 (.slice Az nz cz) (intC zs)) := LZ2.out.below hb4
        have S4 : Hid (SpBox w4 (w.heap.size) (p) (.slice A n c)) := S2.out.below hb4
        have N4 : Hid (SpBox w4 w2.heap.size p (.slice A n c)) := hw4 ▸ SBox.new w2 24 [.int .i64 p, .slice A n c]
        have HBN : Hid (w.heap.size < w2.heap.size) := S2.out.lt
        have pS := S2.out.c0
        have rS := S2.out.c1
        clear hw4 hb4
        go_wp2_with fail
        rw [HW4.out]
        clear pS rS
        go_loopw [6, 7] (fun d i u => CnRel w w2.heap.size p l A n c zs.length d i u) (fun _ i _ => zs.length - (intOf i).toNat)
        case atStart => exact ⟨0, l, A, n, c, [], Nat.zero_le _, rfl, Nat.le_refl _, S4.out, N4.out, LS4.out, HOK.out, undo_nil l, nofun, OwnV.nil _ _ _, HB4.out, HBN.out⟩
        case round =>
          obtain ⟨k, m, An, nn, cn, ds, hk, rfl, hdk, hat⟩ := hrel
          obtain ⟨dv, hdv⟩ : ∃ d, d = u6 := ⟨_, rfl⟩
          subst hdv
          have hnw := Below.refl wr.heap.size wr
          have S20 : Hid (SpBox wr.drew w.heap.size p (.slice A n c)) := SBox.below hat.s hnw.drew
          have N20 : Hid (SpBox wr.drew w2.heap.size p (.slice An nn cn)) := SBox.below hat.now hnw.drew
          have LN20 : Hid (Boos wr.drew (.slice An nn cn) m) := hat.lm.below hnw.drew
          have OD20 : Hid (Done wr.drew (w2.heap.size + 1) dv ds) := hat.own.below hnw.drew
          have HB20 : Hid (Below w.heap.size w wr.drew) := hat.bel.drew
          have LS20 : Hid (Boos wr.drew (.slice A n c) l) := HVW.out.below HB20.out
          have LZ20 : Hid (Rowz wr.drew (.slice Az nz cz) (intC zs)) := HZW.out.below HB20.out
          have hm8 := spOk_len hat.ok
          have HML : Hid (m.length ≤ 70368744177664) := show m.length ≤ 70368744177664 by omega
          have HMO := Lib.hid hat.ok
          have HUN := Lib.hid hat.un
          have HLO := Lib.hid hat.lo
          have HGT := Lib.hid hat.gt
          have HAT := Lib.hid hat
          have HDK := Lib.hid hdk
          have hnn : nn = m.length := by
            obtain ⟨A', n', c', e, N', _, _⟩ := hat.lm.form
            cases e
            exact N'.out
          have hnz : nz = zs.length := NZ.out.trans (intC_len zs)
          clear hat hdk hnw
          by_cases hlt : k < zs.length
          · clear HAT
            have hp8 : 8 ≤ p ∧ p ≤ 4096 := ⟨HMO.out.1, HMO.out.2.1⟩
            obtain ⟨bz, oz, rfl, hbz, hcz⟩ := LZ20.out.at (k := k) (by rw [intC_len]; exact hlt)
            have CZ : Hid (wr.drew.cell? ⟨bz, oz + k, none⟩ = some (.int .i64 zs[k])) := by rw [Hid, hcz k (by rw [intC_len]; exact hlt), intC_at]
            have SC := Lib.hid (SpBox.c0 S20.out)
            obtain ⟨N, hN⟩ : ∃ N : Nat, zs[k] % p = (N : Int) := ⟨(zs[k] % p).toNat, by have := Int.emod_nonneg zs[k] (show p ≠ 0 by omega); omega⟩
            have hNp : (N : Int) < p := by rw [← hN]; exact Int.emod_lt_of_pos _ (by omega)
            have HPK := Lib.hid hN
            have HNM : Hid (N < m.length) := show N < m.length by omega
            have HNN : Hid ((N : Int) < (nn : Int)) := show (N : Int) < (nn : Int) by omega
            clear hcz hbz hN
            generalize zs[k] = z at *
            have hkz : (k : Int) < (nz : Int) := by omega
            have HP8 := Lib.hid hp8
            clear hp8 hnn hnz
            go_wp2_with fail
            refine wp_region_R (R := fun x y => x = y) (by kernel_rfl) (fun _ => rfl) (fun h k => h.trans k) (by kernel_rfl) (fun d v c a w h => by cases d <;> exact h)
              [(0, false), (1, false), (2, false), (3, false), (4, false), (5, false), (6, true), (7, false)] rfl (by kernel_rfl) (by kernel_rfl) ?_
            simp only [sel, List.getElem?_toArray, List.getElem?_cons_succ, List.getElem?_cons_zero]
            generalize wr.drew = w20 at *
            iterate 3 (refine sch_take ?_ rfl ?_ ?_; rotate_left; (focus (intro u hu; go_simp <;> rfl)); simp only [Act.put, List.setIfInBounds_toArray, List.set_cons_zero, List.set_cons_succ])
            (refine sch_take ?_ rfl ?_ ?_; rotate_left; (focus (intro u hu; subst hu; have c1 := CZ.out; go_simp <;> rfl)); simp only [Act.put, List.setIfInBounds_toArray, List.set_cons_zero, List.set_cons_succ])
            (refine sch_take ?_ rfl ?_ ?_; rotate_left; (focus (intro u hu; go_simp <;> rfl)); simp only [Act.put, List.setIfInBounds_toArray, List.set_cons_zero, List.set_cons_succ])
            (refine sch_take ?_ rfl ?_ ?_; rotate_left; (focus (intro u hu; subst hu; have c1 := SC.out; go_simp <;> rfl)); simp only [Act.put, List.setIfInBounds_toArray, List.set_cons_zero, List.set_cons_succ])
            refine sch_call rfl ?_
            intro K hK
            go_simp
            refine (HPK.out ▸ pick_any z p w20 (by have := HP8.out; omega) (by have := HP8.out; omega)).mono ?_
            rintro e w20x ⟨rfl, rfl⟩
            go_wp2_with fail
            refine hK _ _ rfl ?_
            clear hK K
            (refine sch_take ?_ rfl ?_ ?_; rotate_left; (focus (intro u hu; go_simp <;> rfl)); simp only [Act.put, List.setIfInBounds_toArray, List.set_cons_zero, List.set_cons_succ])
            refine sch_nil ?_
            clear CZ SC HPK
            obtain ⟨bm, om, rfl, hbm, hcm2⟩ := LN20.out.at HNM.out
            have hNn : (N : Int) < (nn : Int) := HNN.out
            obtain ⟨q, hq⟩ : ∃ q, (spFreeC p m).length = q := ⟨_, rfl⟩
            have HCN := Lib.hid hq
            have HQB : Hid ((q : Int) ≤ 4096) := by rw [← hq, show spFreeC p m = spFree m from if_pos HMO.out]; have := free_le m; have := spOk_len HMO.out; show _ ≤ _; omega
            have HML2 : Hid ((tog m N).length ≤ 70368744177664) := by rw [Hid, tog_len]; exact HML.out
            have hmN : m[N]? = some (m[N]'HNM.out) := List.getElem?_eq_getElem HNM.out
            have hcell := hcm2 N HNM.out
            generalize m[N]'HNM.out = b at hmN hcell
            by_cases hN2 : N < 2
            · obtain rfl : b = true := by have := spOk_low HMO.out hN2; rw [hmN] at this; injection this
              have FC20 : Hid (CellIs w20 bm (om + N) (.bool true)) := ⟨hbm, hcell⟩
              have HUS := Lib.hid (spUse_used HMO.out hmN)
              have HGV := Lib.hid (spGive_low (p := p) (m := m) hN2)
              have hN2' : (N : Int) < 2 := by omega
              clear hbm hcm2 hcell hq hmN hN2
              have pS := S20.out.c0
              have rS := S20.out.c1
              have pN := N20.out.c0
              have rN := N20.out.c1
              have qFC := FC20.out.2
              go_wp2_with fail
              clear pS rS pN rN qFC
              refine (HUS.out ▸ spUse_any w20 p _ m (N : Int) LN20.out HML.out).mono ?_
              rintro e w21 ⟨x21, rfl, hx21, hb21⟩
              obtain ⟨A21, n21, c21, rfl, _, _, _⟩ := hx21.boos.form
              have HB21 : Hid (Below w.heap.size w w21) := HB20.out.trans (hb21.mono HB20.out.size)
              have LN21 : Hid (Boos w21 (.slice (some ⟨bm, om, none⟩) nn cn) m) := LN20.out.below hb21
              have OD21 : Hid (Done w21 (w2.heap.size + 1) dv ds) := OD20.out.below hb21
              have FC21 : Hid (CellIs w21 (bm) (om + N) (.bool true)) := FC20.out.below hb21
              have S21 : Hid (SpBox w21 (w.heap.size) (p) (.slice A n c)) := S20.out.below hb21
              have N21 : Hid (SpBox w21 (w2.heap.size) (p) (.slice (some ⟨bm, om, none⟩) nn cn)) := N20.out.below hb21
              obtain ⟨w22, hw22⟩ : ∃ u, (w21.alloc (.cells #[.int .i64 (0), .slice A21 n21 c21] 24)) = u := ⟨_, rfl⟩
              have HW22 := Lib.hid hw22
              have hb22 : Below w21.heap.size w21 w22 := hw22 ▸ below_new _ _
              have HB22 : Hid (Below w.heap.size w w22) := HB21.out.trans (hb22.mono HB21.out.size)
              have LN22 : Hid (Boos w22 (.slice (some ⟨bm, om, none⟩) nn cn) m) := LN21.out.below hb22
              have OD22 : Hid (Done w22 (w2.heap.size + 1) dv ds) := OD21.out.below hb22
              have FC22 : Hid (CellIs w22 (bm) (om + N) (.bool true)) := FC21.out.below hb22
              have S22 : Hid (SpBox w22 (w.heap.size) (p) (.slice A n c)) := S21.out.below hb22
              have N22 : Hid (SpBox w22 (w2.heap.size) (p) (.slice (some ⟨bm, om, none⟩) nn cn)) := N21.out.below hb22
              have X22 : Hid (SpBox w22 w21.heap.size (0) (.slice A21 n21 c21)) := hw22 ▸ SBox.new w21 24 [.int .i64 (0), .slice A21 n21 c21]
              have LX22 : Hid (Boos w22 (.slice A21 n21 c21) ([])) := hw22 ▸ Rowz.alloc hx21.boos _
              clear hx21 hb21 hw22 hb22
              have pS : (w21.alloc (.cells #[.int .i64 (0), .slice A21 n21 c21] 24)).cell? ⟨w.heap.size, 0, none⟩ = some (.int .i64 (p)) := by rw [HW22.out]; exact S22.out.c0
              have rS : (w21.alloc (.cells #[.int .i64 (0), .slice A21 n21 c21] 24)).cell? ⟨w.heap.size, 1, none⟩ = some (.slice A n c) := by rw [HW22.out]; exact S22.out.c1
              have pN : (w21.alloc (.cells #[.int .i64 (0), .slice A21 n21 c21] 24)).cell? ⟨w2.heap.size, 0, none⟩ = some (.int .i64 (p)) := by rw [HW22.out]; exact N22.out.c0
              have rN : (w21.alloc (.cells #[.int .i64 (0), .slice A21 n21 c21] 24)).cell? ⟨w2.heap.size, 1, none⟩ = some (.slice (some ⟨bm, om, none⟩) nn cn) := by rw [HW22.out]; exact N22.out.c1
              have qFC : (w21.alloc (.cells #[.int .i64 (0), .slice A21 n21 c21] 24)).cell? ⟨bm, om + N, none⟩ = some (.bool true) := by rw [HW22.out]; exact FC22.out.2
              go_wp2_with fail
              rw [HW22.out]
              clear pS rS pN rN qFC
              refine (HGV.out ▸ spGive_any w22 p _ m (N : Int) LN22.out HML.out).mono ?_
              rintro e w23 ⟨x23, rfl, hx23, hb23⟩
              obtain ⟨A23, n23, c23, rfl, _, _, _⟩ := hx23.boos.form
              have HB23 : Hid (Below w.heap.size w w23) := HB22.out.trans (hb23.mono HB22.out.size)
              have LN23 : Hid (Boos w23 (.slice (some ⟨bm, om, none⟩) nn cn) m) := LN22.out.below hb23
              have OD23 : Hid (Done w23 (w2.heap.size + 1) dv ds) := OD22.out.below hb23
              have LX23 : Hid (Boos w23 (.slice A21 n21 c21) ([])) := LX22.out.below hb23
              have FC23 : Hid (CellIs w23 (bm) (om + N) (.bool true)) := FC22.out.below hb23
              have S23 : Hid (SpBox w23 (w.heap.size) (p) (.slice A n c)) := S22.out.below hb23
              have N23 : Hid (SpBox w23 (w2.heap.size) (p) (.slice (some ⟨bm, om, none⟩) nn cn)) := N22.out.below hb23
              have X23 : Hid (SpBox w23 (w21.heap.size) (0) (.slice A21 n21 c21)) := X22.out.below hb23
              obtain ⟨w24, hw24⟩ : ∃ u, (w23.alloc (.cells #[.int .i64 (0), .slice A23 n23 c23] 24)) = u := ⟨_, rfl⟩
              have HW24 := Lib.hid hw24
              have hb24 : Below w23.heap.size w23 w24 := hw24 ▸ below_new _ _
              have HB24 : Hid (Below w.heap.size w w24) := HB23.out.trans (hb24.mono HB23.out.size)
              have LN24 : Hid (Boos w24 (.slice (some ⟨bm, om, none⟩) nn cn) m) := LN23.out.below hb24
              have OD24 : Hid (Done w24 (w2.heap.size + 1) dv ds) := OD23.out.below hb24
              have LX24 : Hid (Boos w24 (.slice A21 n21 c21) ([])) := LX23.out.below hb24
              have FC24 : Hid (CellIs w24 (bm) (om + N) (.bool true)) := FC23.out.below hb24
              have S24 : Hid (SpBox w24 (w.heap.size) (p) (.slice A n c)) := S23.out.below hb24
              have N24 : Hid (SpBox w24 (w2.heap.size) (p) (.slice (some ⟨bm, om, none⟩) nn cn)) := N23.out.below hb24
              have X24 : Hid (SpBox w24 (w21.heap.size) (0) (.slice A21 n21 c21)) := X23.out.below hb24
              have Y24 : Hid (SpBox w24 w23.heap.size (0) (.slice A23 n23 c23)) := hw24 ▸ SBox.new w23 24 [.int .i64 (0), .slice A23 n23 c23]
              have LY24 : Hid (Boos w24 (.slice A23 n23 c23) ([])) := hw24 ▸ Rowz.alloc hx23.boos _
              clear hx23 hb23 hw24 hb24
              have pS : (w23.alloc (.cells #[.int .i64 (0), .slice A23 n23 c23] 24)).cell? ⟨w.heap.size, 0, none⟩ = some (.int .i64 (p)) := by rw [HW24.out]; exact S24.out.c0
              have rS : (w23.alloc (.cells #[.int .i64 (0), .slice A23 n23 c23] 24)).cell? ⟨w.heap.size, 1, none⟩ = some (.slice A n c) := by rw [HW24.out]; exact S24.out.c1
              have pN : (w23.alloc (.cells #[.int .i64 (0), .slice A23 n23 c23] 24)).cell? ⟨w2.heap.size, 0, none⟩ = some (.int .i64 (p)) := by rw [HW24.out]; exact N24.out.c0
              have rN : (w23.alloc (.cells #[.int .i64 (0), .slice A23 n23 c23] 24)).cell? ⟨w2.heap.size, 1, none⟩ = some (.slice (some ⟨bm, om, none⟩) nn cn) := by rw [HW24.out]; exact N24.out.c1
              have pX : (w23.alloc (.cells #[.int .i64 (0), .slice A23 n23 c23] 24)).cell? ⟨w21.heap.size, 0, none⟩ = some (.int .i64 (0)) := by rw [HW24.out]; exact X24.out.c0
              have rX : (w23.alloc (.cells #[.int .i64 (0), .slice A23 n23 c23] 24)).cell? ⟨w21.heap.size, 1, none⟩ = some (.slice A21 n21 c21) := by rw [HW24.out]; exact X24.out.c1
              have qFC : (w23.alloc (.cells #[.int .i64 (0), .slice A23 n23 c23] 24)).cell? ⟨bm, om + N, none⟩ = some (.bool true) := by rw [HW24.out]; exact FC24.out.2
              go_wp2_with fail
              rw [HW24.out]
              clear pS rS pN rN pX rX qFC
              obtain ⟨q2, hq2⟩ : ∃ q2, (spFreeC p m).length = q2 := ⟨_, rfl⟩
              have HCM := Lib.hid hq2
              clear hq2
              obtain ⟨w25, hw25⟩ : ∃ u, w24.drew = u := ⟨_, rfl⟩
              have HD25 := Lib.hid hw25
              have hb25 : Below w24.heap.size w24 w25 := hw25 ▸ (Below.refl _ w24).drew
              have HB25 : Hid (Below w.heap.size w w25) := HB24.out.trans (hb25.mono HB24.out.size)
              have LN25 : Hid (Boos w25 (.slice (some ⟨bm, om, none⟩) nn cn) m) := LN24.out.below hb25
              have OD25 : Hid (Done w25 (w2.heap.size + 1) dv ds) := OD24.out.below hb25
              have S25 : Hid (SpBox w25 (w.heap.size) (p) (.slice A n c)) := S24.out.below hb25
              have N25 : Hid (SpBox w25 (w2.heap.size) (p) (.slice (some ⟨bm, om, none⟩) nn cn)) := N24.out.below hb25
              clear hw25 hb25
              refine wp_region_R (R := fun x y => Below x.heap.size x y) (by kernel_rfl) (fun _ => Below.refl _ _) (fun h k => h.trans (k.mono h.size)) (by kernel_rfl) (fun d v c a w h => by cases d <;> exact h)
                [(0, false), (3, false), (1, true), (2, false), (4, true), (5, false)] rfl (by kernel_rfl) (by kernel_rfl) ?_
              simp only [sel, List.getElem?_toArray, List.getElem?_cons_succ, List.getElem?_cons_zero]
              rw [HD25.out]
              refine sch_take (.agg #[.int .i64 p, (.slice (some ⟨bm, om, none⟩) nn cn)]) rfl (fun u hu => exec_loadS (SBox.below N25.out hu) Try.underlying24 spInfo _ rfl rfl) ?_
              simp only [Act.put, List.setIfInBounds_toArray, List.set_cons_zero, List.set_cons_succ]
              refine sch_take (.agg #[.int .i64 p, (.slice (some ⟨bm, om, none⟩) nn cn)]) rfl (fun u hu => exec_loadS (SBox.below N25.out hu) Try.underlying24 spInfo _ rfl rfl) ?_
              simp only [Act.put, List.setIfInBounds_toArray, List.set_cons_zero, List.set_cons_succ]
              refine sch_call rfl ?_
              intro K hK
              go_simp
              refine (spFree_any w25 p _ m LN25.out HML.out).mono ?_
              rintro e w26 ⟨fv, rfl, hf, hb26⟩
              obtain ⟨Af, nf, cf, rfl, NF, hnf, hcf⟩ := hf.rowz.form
              obtain rfl : nf = q2 := (NF.out.trans (natC_len _)).trans HCM.out
              clear hf NF
              go_wp2_with fail
              refine hK _ _ hb26 ?_
              clear hK K
              have HB26 : Hid (Below w.heap.size w w26) := HB25.out.trans (hb26.mono HB25.out.size)
              have LN26 : Hid (Boos w26 (.slice (some ⟨bm, om, none⟩) nn cn) m) := LN25.out.below hb26
              have OD26 : Hid (Done w26 (w2.heap.size + 1) dv ds) := OD25.out.below hb26
              have S26 : Hid (SpBox w26 (w.heap.size) (p) (.slice A n c)) := S25.out.below hb26
              have N26 : Hid (SpBox w26 (w2.heap.size) (p) (.slice (some ⟨bm, om, none⟩) nn cn)) := N25.out.below hb26
              clear hb26
              (refine sch_take ?_ rfl ?_ ?_; rotate_left; (focus (intro u hu; go_simp <;> rfl)); simp only [Act.put, List.setIfInBounds_toArray, List.set_cons_zero, List.set_cons_succ])
              refine sch_call rfl ?_
              intro K hK
              go_simp
              refine (HCM.out ▸ spCount_any w26 p _ m LN26.out HML.out).mono ?_
              rintro e w27 ⟨rfl, hb27⟩
              go_wp2_with fail
              refine hK _ _ hb27 ?_
              clear hK K
              have HB27 : Hid (Below w.heap.size w w27) := HB26.out.trans (hb27.mono HB26.out.size)
              have LN27 : Hid (Boos w27 (.slice (some ⟨bm, om, none⟩) nn cn) m) := LN26.out.below hb27
              have OD27 : Hid (Done w27 (w2.heap.size + 1) dv ds) := OD26.out.below hb27
              have S27 : Hid (SpBox w27 (w.heap.size) (p) (.slice A n c)) := S26.out.below hb27
              have N27 : Hid (SpBox w27 (w2.heap.size) (p) (.slice (some ⟨bm, om, none⟩) nn cn)) := N26.out.below hb27
              clear hb27
              (refine sch_take (.bool false) rfl ?_ ?_; focus (intro u hu; clear hu; go_simp; done))
              simp only [Act.put, List.setIfInBounds_toArray, List.set_cons_zero, List.set_cons_succ]
              refine sch_nil ?_
              go_wp2_with fail
              go_roundw
              all_goals first
                | exact ⟨k + 1, _, _, _, _, _, by omega, by push_cast; rfl, Nat.le_succ_of_le HDK.out, ⟨S27.out, N27.out, LN27.out, HMO.out, HUN.out, HLO.out, OD27.out, HB27.out, HGT.out⟩⟩
                | (show zs.length - ((k : Int) + 1).toNat < zs.length - (k : Int).toNat; omega)
            · have hN2' : ¬ (N : Int) < 2 := by omega
              have hN3 : 2 ≤ N := by omega
              cases b with
              | true =>
                have FC20 : Hid (CellIs w20 bm (om + N) (.bool true)) := ⟨hbm, hcell⟩
                have HUS := Lib.hid (spUse_used HMO.out hmN)
                have HGV := Lib.hid (spGive_used HMO.out hN3 hmN)
                have HCT : Hid (((spFreeC p (tog m N)).length : Int) = (q : Int) + 1) := hq ▸ count_used HMO.out hmN hN3
                have HTN : Hid ((tog m N)[N]'(by rw [tog_len]; exact HNM.out) = false) := by simp [Hid, tog_used hmN]
                clear hbm hcm2 hcell hq hmN hN2
                have pS := S20.out.c0
                have rS := S20.out.c1
                have pN := N20.out.c0
                have rN := N20.out.c1
                have qFC := FC20.out.2
                go_wp2_with fail
                clear pS rS pN rN qFC
                refine (HUS.out ▸ spUse_any w20 p _ m (N : Int) LN20.out HML.out).mono ?_
                rintro e w21 ⟨x21, rfl, hx21, hb21⟩
                obtain ⟨A21, n21, c21, rfl, _, _, _⟩ := hx21.boos.form
                have HB21 : Hid (Below w.heap.size w w21) := HB20.out.trans (hb21.mono HB20.out.size)
                have LN21 : Hid (Boos w21 (.slice (some ⟨bm, om, none⟩) nn cn) m) := LN20.out.below hb21
                have OD21 : Hid (Done w21 (w2.heap.size + 1) dv ds) := OD20.out.below hb21
                have FC21 : Hid (CellIs w21 (bm) (om + N) (.bool true)) := FC20.out.below hb21
                have S21 : Hid (SpBox w21 (w.heap.size) (p) (.slice A n c)) := S20.out.below hb21
                have N21 : Hid (SpBox w21 (w2.heap.size) (p) (.slice (some ⟨bm, om, none⟩) nn cn)) := N20.out.below hb21
                obtain ⟨w22, hw22⟩ : ∃ u, (w21.alloc (.cells #[.int .i64 (0), .slice A21 n21 c21] 24)) = u := ⟨_, rfl⟩
                have HW22 := Lib.hid hw22
                have hb22 : Below w21.heap.size w21 w22 := hw22 ▸ below_new _ _
                have HB22 : Hid (Below w.heap.size w w22) := HB21.out.trans (hb22.mono HB21.out.size)
                have LN22 : Hid (Boos w22 (.slice (some ⟨bm, om, none⟩) nn cn) m) := LN21.out.below hb22
                have OD22 : Hid (Done w22 (w2.heap.size + 1) dv ds) := OD21.out.below hb22
                have FC22 : Hid (CellIs w22 (bm) (om + N) (.bool true)) := FC21.out.below hb22
                have S22 : Hid (SpBox w22 (w.heap.size) (p) (.slice A n c)) := S21.out.below hb22
                have N22 : Hid (SpBox w22 (w2.heap.size) (p) (.slice (some ⟨bm, om, none⟩) nn cn)) := N21.out.below hb22
                have X22 : Hid (SpBox w22 w21.heap.size (0) (.slice A21 n21 c21)) := hw22 ▸ SBox.new w21 24 [.int .i64 (0), .slice A21 n21 c21]
                have LX22 : Hid (Boos w22 (.slice A21 n21 c21) ([])) := hw22 ▸ Rowz.alloc hx21.boos _
                clear hx21 hb21 hw22 hb22
                have pS : (w21.alloc (.cells #[.int .i64 (0), .slice A21 n21 c21] 24)).cell? ⟨w.heap.size, 0, none⟩ = some (.int .i64 (p)) := by rw [HW22.out]; exact S22.out.c0
                have rS : (w21.alloc (.cells #[.int .i64 (0), .slice A21 n21 c21] 24)).cell? ⟨w.heap.size, 1, none⟩ = some (.slice A n c) := by rw [HW22.out]; exact S22.out.c1
                have pN : (w21.alloc (.cells #[.int .i64 (0), .slice A21 n21 c21] 24)).cell? ⟨w2.heap.size, 0, none⟩ = some (.int .i64 (p)) := by rw [HW22.out]; exact N22.out.c0
                have rN : (w21.alloc (.cells #[.int .i64 (0), .slice A21 n21 c21] 24)).cell? ⟨w2.heap.size, 1, none⟩ = some (.slice (some ⟨bm, om, none⟩) nn cn) := by rw [HW22.out]; exact N22.out.c1
                have qFC : (w21.alloc (.cells #[.int .i64 (0), .slice A21 n21 c21] 24)).cell? ⟨bm, om + N, none⟩ = some (.bool true) := by rw [HW22.out]; exact FC22.out.2
                go_wp2_with fail
                rw [HW22.out]
                clear pS rS pN rN qFC
                refine (HGV.out ▸ spGive_any w22 p _ m (N : Int) LN22.out HML.out).mono ?_
                rintro e w23 ⟨x23, rfl, hx23, hb23⟩
                obtain ⟨A23, n23, c23, rfl, _, _, _⟩ := hx23.boos.form
                have HB23 : Hid (Below w.heap.size w w23) := HB22.out.trans (hb23.mono HB22.out.size)
                have LN23 : Hid (Boos w23 (.slice (some ⟨bm, om, none⟩) nn cn) m) := LN22.out.below hb23
                have OD23 : Hid (Done w23 (w2.heap.size + 1) dv ds) := OD22.out.below hb23
                have LX23 : Hid (Boos w23 (.slice A21 n21 c21) ([])) := LX22.out.below hb23
                have FC23 : Hid (CellIs w23 (bm) (om + N) (.bool true)) := FC22.out.below hb23
                have S23 : Hid (SpBox w23 (w.heap.size) (p) (.slice A n c)) := S22.out.below hb23
                have N23 : Hid (SpBox w23 (w2.heap.size) (p) (.slice (some ⟨bm, om, none⟩) nn cn)) := N22.out.below hb23
                have X23 : Hid (SpBox w23 (w21.heap.size) (0) (.slice A21 n21 c21)) := X22.out.below hb23
                obtain ⟨w24, hw24⟩ : ∃ u, (w23.alloc (.cells #[.int .i64 (p), .slice A23 n23 c23] 24)) = u := ⟨_, rfl⟩
                have HW24 := Lib.hid hw24
                have hb24 : Below w23.heap.size w23 w24 := hw24 ▸ below_new _ _
                have HB24 : Hid (Below w.heap.size w w24) := HB23.out.trans (hb24.mono HB23.out.size)
                have LN24 : Hid (Boos w24 (.slice (some ⟨bm, om, none⟩) nn cn) m) := LN23.out.below hb24
                have OD24 : Hid (Done w24 (w2.heap.size + 1) dv ds) := OD23.out.below hb24
                have LX24 : Hid (Boos w24 (.slice A21 n21 c21) ([])) := LX23.out.below hb24
                have FC24 : Hid (CellIs w24 (bm) (om + N) (.bool true)) := FC23.out.below hb24
                have S24 : Hid (SpBox w24 (w.heap.size) (p) (.slice A n c)) := S23.out.below hb24
                have N24 : Hid (SpBox w24 (w2.heap.size) (p) (.slice (some ⟨bm, om, none⟩) nn cn)) := N23.out.below hb24
                have X24 : Hid (SpBox w24 (w21.heap.size) (0) (.slice A21 n21 c21)) := X23.out.below hb24
                have Y24 : Hid (SpBox w24 w23.heap.size (p) (.slice A23 n23 c23)) := hw24 ▸ SBox.new w23 24 [.int .i64 (p), .slice A23 n23 c23]
                have LY24 : Hid (Boos w24 (.slice A23 n23 c23) (tog m N)) := hw24 ▸ Rowz.alloc hx23.boos _
                have HDY : Hid (dv.ownBlock ≠ some w23.heap.size) := fun hk => by have := (World.ownsRow.lt OD23.out _ hk).2; omega
                have HEY : Hid (∀ k, (Value.slice A23 n23 c23).ownBlock = some k → dv.ownBlock ≠ some k) := fun k h1 h2 => by have := (World.ownsRow.lt hx23 _ h1).1; have := (World.ownsRow.lt OD22.out _ h2).2; omega
                have HCY : Hid (w2.heap.size < w23.heap.size) := N23.out.lt
                have HNY : Hid ((Value.slice A23 n23 c23).ownBlock ≠ some w2.heap.size) := fun hk => by have := (World.ownsRow.lt hx23 _ hk).1; have := N22.out.lt; omega
                clear hx23 hb23 hw24 hb24
                have pS : (w23.alloc (.cells #[.int .i64 (p), .slice A23 n23 c23] 24)).cell? ⟨w.heap.size, 0, none⟩ = some (.int .i64 (p)) := by rw [HW24.out]; exact S24.out.c0
                have rS : (w23.alloc (.cells #[.int .i64 (p), .slice A23 n23 c23] 24)).cell? ⟨w.heap.size, 1, none⟩ = some (.slice A n c) := by rw [HW24.out]; exact S24.out.c1
                have pN : (w23.alloc (.cells #[.int .i64 (p), .slice A23 n23 c23] 24)).cell? ⟨w2.heap.size, 0, none⟩ = some (.int .i64 (p)) := by rw [HW24.out]; exact N24.out.c0
                have rN : (w23.alloc (.cells #[.int .i64 (p), .slice A23 n23 c23] 24)).cell? ⟨w2.heap.size, 1, none⟩ = some (.slice (some ⟨bm, om, none⟩) nn cn) := by rw [HW24.out]; exact N24.out.c1
                have pX : (w23.alloc (.cells #[.int .i64 (p), .slice A23 n23 c23] 24)).cell? ⟨w21.heap.size, 0, none⟩ = some (.int .i64 (0)) := by rw [HW24.out]; exact X24.out.c0
                have rX : (w23.alloc (.cells #[.int .i64 (p), .slice A23 n23 c23] 24)).cell? ⟨w21.heap.size, 1, none⟩ = some (.slice A21 n21 c21) := by rw [HW24.out]; exact X24.out.c1
                have qFC : (w23.alloc (.cells #[.int .i64 (p), .slice A23 n23 c23] 24)).cell? ⟨bm, om + N, none⟩ = some (.bool true) := by rw [HW24.out]; exact FC24.out.2
                go_wp2_with fail
                rw [HW24.out]
                clear pS rS pN rN pX rX qFC
                obtain ⟨bt, ot, eat, hbt1, hbt2⟩ := Boos.at LY24.out (show N < (tog m N).length by rw [tog_len]; exact HNM.out)
                cases eat
                have FT24 : Hid (CellIs w24 bt (ot + N) (.bool false)) := ⟨hbt1, by rw [hbt2 N (by rw [tog_len]; exact HNM.out)]; exact congrArg _ (congrArg Value.bool HTN.out)⟩
                clear hbt1 hbt2
                have HIX : Hid (N < n23) := by
                  obtain ⟨A', n', c', e, N', _, _⟩ := Boos.form LY24.out
                  cases e
                  have := N'.out
                  rw [tog_len] at this
                  have := HNM.out
                  show _ < _
                  omega
                obtain ⟨w25, hw25⟩ : ∃ u, w24.drew = u := ⟨_, rfl⟩
                have HD25 := Lib.hid hw25
                have hb25 : Below w24.heap.size w24 w25 := hw25 ▸ (Below.refl _ w24).drew
                have HB25 : Hid (Below w.heap.size w w25) := HB24.out.trans (hb25.mono HB24.out.size)
                have LN25 : Hid (Boos w25 (.slice (some ⟨bm, om, none⟩) nn cn) m) := LN24.out.below hb25
                have OD25 : Hid (Done w25 (w2.heap.size + 1) dv ds) := OD24.out.below hb25
                have LX25 : Hid (Boos w25 (.slice A21 n21 c21) ([])) := LX24.out.below hb25
                have LY25 : Hid (Boos w25 (.slice (some ⟨bt, ot, none⟩) n23 c23) (tog m N)) := LY24.out.below hb25
                have FC25 : Hid (CellIs w25 (bm) (om + N) (.bool true)) := FC24.out.below hb25
                have FT25 : Hid (CellIs w25 (bt) (ot + N) (.bool false)) := FT24.out.below hb25
                have S25 : Hid (SpBox w25 (w.heap.size) (p) (.slice A n c)) := S24.out.below hb25
                have N25 : Hid (SpBox w25 (w2.heap.size) (p) (.slice (some ⟨bm, om, none⟩) nn cn)) := N24.out.below hb25
                have X25 : Hid (SpBox w25 (w21.heap.size) (0) (.slice A21 n21 c21)) := X24.out.below hb25
                have Y25 : Hid (SpBox w25 (w23.heap.size) (p) (.slice (some ⟨bt, ot, none⟩) n23 c23)) := Y24.out.below hb25
                clear hw25 hb25
                refine wp_region_R (R := fun x y => Below x.heap.size x y) (by kernel_rfl) (fun _ => Below.refl _ _) (fun h k => h.trans (k.mono h.size)) (by kernel_rfl) (fun d v c a w h => by cases d <;> exact h)
                  [(0, false), (1, false), (2, false), (3, false), (4, false), (5, false), (6, false), (7, false), (9, false), (8, true), (10, true), (11, false), (12, false), (13, false), (14, false), (15, false), (16, false), (17, false), (18, false), (19, false), (20, false)] rfl (by kernel_rfl) (by kernel_rfl) ?_
                simp only [sel, List.getElem?_toArray, List.getElem?_cons_succ, List.getElem?_cons_zero]
                rw [HD25.out]
                iterate 7 (refine sch_take ?_ rfl ?_ ?_; rotate_left; (focus (intro u hu; go_simp <;> rfl)); simp only [Act.put, List.setIfInBounds_toArray, List.set_cons_zero, List.set_cons_succ])
                refine sch_take (.agg #[.int .i64 p, (.slice (some ⟨bt, ot, none⟩) n23 c23)]) rfl (fun u hu => exec_loadS (SBox.below Y25.out hu) Try.underlying24 spInfo _ rfl rfl) ?_
                simp only [Act.put, List.setIfInBounds_toArray, List.set_cons_zero, List.set_cons_succ]
                refine sch_take (.agg #[.int .i64 p, (.slice (some ⟨bm, om, none⟩) nn cn)]) rfl (fun u hu => exec_loadS (SBox.below N25.out hu) Try.underlying24 spInfo _ rfl rfl) ?_
                simp only [Act.put, List.setIfInBounds_toArray, List.set_cons_zero, List.set_cons_succ]
                refine sch_call rfl ?_
                intro K hK
                go_simp
                refine (HCT.out ▸ spCount_any w25 p _ (tog m N) LY25.out HML2.out).mono ?_
                rintro e w26 ⟨rfl, hb26⟩
                go_wp2_with fail
                refine hK _ _ hb26 ?_
                clear hK K
                have HB26 : Hid (Below w.heap.size w w26) := HB25.out.trans (hb26.mono HB25.out.size)
                have LN26 : Hid (Boos w26 (.slice (some ⟨bm, om, none⟩) nn cn) m) := LN25.out.below hb26
                have OD26 : Hid (Done w26 (w2.heap.size + 1) dv ds) := OD25.out.below hb26
                have LX26 : Hid (Boos w26 (.slice A21 n21 c21) ([])) := LX25.out.below hb26
                have LY26 : Hid (Boos w26 (.slice (some ⟨bt, ot, none⟩) n23 c23) (tog m N)) := LY25.out.below hb26
                have FC26 : Hid (CellIs w26 (bm) (om + N) (.bool true)) := FC25.out.below hb26
                have FT26 : Hid (CellIs w26 (bt) (ot + N) (.bool false)) := FT25.out.below hb26
                have S26 : Hid (SpBox w26 (w.heap.size) (p) (.slice A n c)) := S25.out.below hb26
                have N26 : Hid (SpBox w26 (w2.heap.size) (p) (.slice (some ⟨bm, om, none⟩) nn cn)) := N25.out.below hb26
                have X26 : Hid (SpBox w26 (w21.heap.size) (0) (.slice A21 n21 c21)) := X25.out.below hb26
                have Y26 : Hid (SpBox w26 (w23.heap.size) (p) (.slice (some ⟨bt, ot, none⟩) n23 c23)) := Y25.out.below hb26
                clear hb26
                refine sch_call rfl ?_
                intro K hK
                go_simp
                refine (HCN.out ▸ spCount_any w26 p _ m LN26.out HML.out).mono ?_
                rintro e w27 ⟨rfl, hb27⟩
                go_wp2_with fail
                refine hK _ _ hb27 ?_
                clear hK K
                have HB27 : Hid (Below w.heap.size w w27) := HB26.out.trans (hb27.mono HB26.out.size)
                have LN27 : Hid (Boos w27 (.slice (some ⟨bm, om, none⟩) nn cn) m) := LN26.out.below hb27
                have OD27 : Hid (Done w27 (w2.heap.size + 1) dv ds) := OD26.out.below hb27
                have LX27 : Hid (Boos w27 (.slice A21 n21 c21) ([])) := LX26.out.below hb27
                have LY27 : Hid (Boos w27 (.slice (some ⟨bt, ot, none⟩) n23 c23) (tog m N)) := LY26.out.below hb27
                have FC27 : Hid (CellIs w27 (bm) (om + N) (.bool true)) := FC26.out.below hb27
                have FT27 : Hid (CellIs w27 (bt) (ot + N) (.bool false)) := FT26.out.below hb27
                have S27 : Hid (SpBox w27 (w.heap.size) (p) (.slice A n c)) := S26.out.below hb27
                have N27 : Hid (SpBox w27 (w2.heap.size) (p) (.slice (some ⟨bm, om, none⟩) nn cn)) := N26.out.below hb27
                have X27 : Hid (SpBox w27 (w21.heap.size) (0) (.slice A21 n21 c21)) := X26.out.below hb27
                have Y27 : Hid (SpBox w27 (w23.heap.size) (p) (.slice (some ⟨bt, ot, none⟩) n23 c23)) := Y26.out.below hb27
                clear hb27
                (refine sch_take ?_ rfl ?_ ?_; rotate_left; (focus (intro u hu; go_simp <;> rfl)); simp only [Act.put, List.setIfInBounds_toArray, List.set_cons_zero, List.set_cons_succ])
                (refine sch_take (.bool false) rfl ?_ ?_; focus (intro u hu; clear hu; have hqb := HQB.out; go_simp; all_goals (rw [IntKind.wrap_i64]; omega)))
                simp only [Act.put, List.setIfInBounds_toArray, List.set_cons_zero, List.set_cons_succ]
                iterate 3 (refine sch_take ?_ rfl ?_ ?_; rotate_left; (focus (intro u hu; go_simp <;> rfl)); simp only [Act.put, List.setIfInBounds_toArray, List.set_cons_zero, List.set_cons_succ])
                (refine sch_take ?_ rfl ?_ ?_; rotate_left; (focus (intro u hu; have c1 := SpBox.c1 (SBox.below Y27.out hu); clear hu; go_simp <;> rfl)); simp only [Act.put, List.setIfInBounds_toArray, List.set_cons_zero, List.set_cons_succ])
                (refine sch_take ?_ rfl ?_ ?_; rotate_left; (focus (intro u hu; go_simp <;> rfl)); simp only [Act.put, List.setIfInBounds_toArray, List.set_cons_zero, List.set_cons_succ])
                (refine sch_take ?_ rfl ?_ ?_; rotate_left; (focus (intro u hu; have hNy := HIX.out; go_simp <;> rfl)); simp only [Act.put, List.setIfInBounds_toArray, List.set_cons_zero, List.set_cons_succ])
                (refine sch_take ?_ rfl ?_ ?_; rotate_left; (focus (intro u hu; have cc := (CellIs.below FT27.out hu).2; clear hu; go_simp <;> rfl)); simp only [Act.put, List.setIfInBounds_toArray, List.set_cons_zero, List.set_cons_succ])
                (refine sch_take ?_ rfl ?_ ?_; rotate_left; (focus (intro u hu; go_simp <;> rfl)); simp only [Act.put, List.setIfInBounds_toArray, List.set_cons_zero, List.set_cons_succ])
                refine sch_nil ?_
                go_wp2_with fail
                obtain ⟨w28, hw28⟩ : ∃ u, w27.drew = u := ⟨_, rfl⟩
                have HD28 := Lib.hid hw28
                have hb28 : Below w27.heap.size w27 w28 := hw28 ▸ (Below.refl _ w27).drew
                have HB28 : Hid (Below w.heap.size w w28) := HB27.out.trans (hb28.mono HB27.out.size)
                have LN28 : Hid (Boos w28 (.slice (some ⟨bm, om, none⟩) nn cn) m) := LN27.out.below hb28
                have OD28 : Hid (Done w28 (w2.heap.size + 1) dv ds) := OD27.out.below hb28
                have LX28 : Hid (Boos w28 (.slice A21 n21 c21) ([])) := LX27.out.below hb28
                have LY28 : Hid (Boos w28 (.slice (some ⟨bt, ot, none⟩) n23 c23) (tog m N)) := LY27.out.below hb28
                have FC28 : Hid (CellIs w28 (bm) (om + N) (.bool true)) := FC27.out.below hb28
                have FT28 : Hid (CellIs w28 (bt) (ot + N) (.bool false)) := FT27.out.below hb28
                have S28 : Hid (SpBox w28 (w.heap.size) (p) (.slice A n c)) := S27.out.below hb28
                have N28 : Hid (SpBox w28 (w2.heap.size) (p) (.slice (some ⟨bm, om, none⟩) nn cn)) := N27.out.below hb28
                have X28 : Hid (SpBox w28 (w21.heap.size) (0) (.slice A21 n21 c21)) := X27.out.below hb28
                have Y28 : Hid (SpBox w28 (w23.heap.size) (p) (.slice (some ⟨bt, ot, none⟩) n23 c23)) := Y27.out.below hb28
                clear hw28 hb28
                refine wp_region_R (R := fun x y => y.heap[w23.heap.size]? = x.heap[w23.heap.size]?) (by kernel_rfl) (fun _ => rfl) (fun h k => k.trans h) (by kernel_rfl) (fun d v c a w h => by cases d <;> exact h)
                  [(0, false), (1, false), (2, false), (3, true), (4, true), (5, true), (6, false)] rfl (by kernel_rfl) (by kernel_rfl) ?_
                simp only [sel, List.getElem?_toArray, List.getElem?_cons_succ, List.getElem?_cons_zero]
                rw [HD28.out]
                refine sch_take (.agg #[.int .i64 p, (.slice (some ⟨bt, ot, none⟩) n23 c23)]) rfl (fun u hu => exec_loadS (SBox.same Y28.out hu) Try.underlying24 spInfo _ rfl rfl) ?_
                simp only [Act.put, List.setIfInBounds_toArray, List.set_cons_zero, List.set_cons_succ]
                iterate 2 (refine sch_take ?_ rfl ?_ ?_; rotate_left; (focus (intro u hu; go_simp <;> rfl)); simp only [Act.put, List.setIfInBounds_toArray, List.set_cons_zero, List.set_cons_succ])
                refine sch_call rfl ?_
                intro K hK
                go_simp
                refine hK _ _ ((below_new w28 _).block _ Y28.out.lt) ?_
                clear hK K
                obtain ⟨w29, hw29⟩ : ∃ u, w28.alloc (.cells #[.int .i64 (N : Int)] 3) = u := ⟨_, rfl⟩
                have hb29 : Below w28.heap.size w28 w29 := hw29 ▸ below_new _ _
                have HRW : Hid (Rowz w29 (.slice (some ⟨w28.heap.size, 0, none⟩) 1 1) (natC [N])) := hw29 ▸ Rowz.lit w28 [.int .i64 (N : Int)] 3 (by simp [maxLen])
                have HB29 : Hid (Below w.heap.size w w29) := HB28.out.trans (hb29.mono HB28.out.size)
                have LN29 : Hid (Boos w29 (.slice (some ⟨bm, om, none⟩) nn cn) m) := LN28.out.below hb29
                have OD29 : Hid (Done w29 (w2.heap.size + 1) dv ds) := OD28.out.below hb29
                have LX29 : Hid (Boos w29 (.slice A21 n21 c21) ([])) := LX28.out.below hb29
                have LY29 : Hid (Boos w29 (.slice (some ⟨bt, ot, none⟩) n23 c23) (tog m N)) := LY28.out.below hb29
                have FC29 : Hid (CellIs w29 (bm) (om + N) (.bool true)) := FC28.out.below hb29
                have FT29 : Hid (CellIs w29 (bt) (ot + N) (.bool false)) := FT28.out.below hb29
                have S29 : Hid (SpBox w29 (w.heap.size) (p) (.slice A n c)) := S28.out.below hb29
                have N29 : Hid (SpBox w29 (w2.heap.size) (p) (.slice (some ⟨bm, om, none⟩) nn cn)) := N28.out.below hb29
                have X29 : Hid (SpBox w29 (w21.heap.size) (0) (.slice A21 n21 c21)) := X28.out.below hb29
                have Y29 : Hid (SpBox w29 (w23.heap.size) (p) (.slice (some ⟨bt, ot, none⟩) n23 c23)) := Y28.out.below hb29
                rw [hw29]
                clear hw29 hb29
                try simp only [Act.put, List.setIfInBounds_toArray, List.set_cons_zero, List.set_cons_succ]
                refine sch_call rfl ?_
                intro K hK
                obtain ⟨i0, hi0, hz0, hz1, hz2⟩ := HI0.out
                refine wp_appV (.tmp 124) (.tmp 126) _ rfl (w2.heap.size + 1) 3 8 i0 _ Try.underlying34 hi0 hz0 hz1 hz2 rfl _ (natC ds) rfl OD29.out _ (natC [N]) rfl HRW.out (natC_one _) (by have := HDK.out; have := HZ6.out; simp only [natC_len, List.length_cons, List.length_nil]; omega) (by have := HDK.out; have := HZ6.out; simp only [natC_len, List.length_cons, List.length_nil, maxLen]; omega) N29.out.lt ?_
                intro dv2 w30 ho hg hat
                refine hK _ _ (hg.block _ Y29.out.lt (fun e => HDY.out (by first | exact e | exact e.symm))) ?_
                clear hK K hat hi0 hz0 hz1 hz2 i0
                have S30 : Hid (SpBox w30 w.heap.size p (.slice A n c)) := SBox.grownO S29.out hg (fun e => by have := (World.ownsRow.lt OD29.out _ e).1; have := HGT.out; omega)
                have N30 : Hid (SpBox w30 w2.heap.size p (.slice (some ⟨bm, om, none⟩) nn cn)) := SBox.grownO N29.out hg (fun e => by have := (World.ownsRow.lt OD29.out _ e).1; omega)
                have Y30 := Lib.hid (SBox.grownO Y29.out hg HDY.out)
                have LM30 : Hid (Boos w30 (.slice (some ⟨bt, ot, none⟩) n23 c23) (tog m N)) := Rowz.grownO LY29.out hg HEY.out
                have HB30 : Hid (Below w.heap.size w w30) := HB29.out.grown hg HB29.out.size (fun k hk => by have := (World.ownsRow.lt OD29.out _ hk).1; have := HGT.out; omega)
                have OD30 : Hid (Done w30 (w2.heap.size + 1) dv2 (ds ++ [N])) := by rw [Hid, Done, natC_app]; exact ho
                clear ho hg
                simp only [Act.put, List.setIfInBounds_toArray, List.set_cons_zero, List.set_cons_succ]
                refine sch_call rfl ?_
                intro K hK
                refine wp_storeS1 N30.out spInfo (.tmp 5) (.tmp 123) rfl rfl (ds := [.int .i64 p, (.slice (some ⟨bt, ot, none⟩) n23 c23)]) rfl rfl (one_sp _ _ _ _) ?_
                intro w31 hs hg hz
                refine hK _ _ (hg.block _ Y30.out.lt (fun e => by have h1 := HCY.out; first | (injection e with e; omega) | (have := e; simp at this; omega))) ?_
                clear hK K hz
                have S31 : Hid (SpBox w31 w.heap.size p (.slice A n c)) := S30.out.grown hg (by have := HGT.out; omega)
                have N31 := Lib.hid hs
                have LM31 : Hid (Boos w31 (.slice (some ⟨bt, ot, none⟩) n23 c23) (tog m N)) := Rowz.grown LM30.out hg (fun j hj e => HNY.out (by rw [hj, e]))
                have HB31 : Hid (Below w.heap.size w w31) := HB30.out.grown hg HB30.out.size (fun j e => by cases e; have := HGT.out; omega)
                have OD31 : Hid (Done w31 (w2.heap.size + 1) dv2 (ds ++ [N])) := World.ownsRow.kept OD30.out hg (.inr (fun e => by have := (World.ownsRow.lt OD30.out _ e).1; omega))
                clear hs hg
                simp only [Act.put, List.setIfInBounds_toArray, List.set_cons_zero, List.set_cons_succ]
                (refine sch_take ?_ rfl ?_ ?_; rotate_left; (focus (intro u hu; go_simp <;> rfl)); simp only [Act.put, List.setIfInBounds_toArray, List.set_cons_zero, List.set_cons_succ])
                refine sch_nil ?_
                go_wp2_with fail
                obtain ⟨q2, hq2⟩ : ∃ q2, (spFreeC p (tog m N)).length = q2 := ⟨_, rfl⟩
                have HCM := Lib.hid hq2
                clear hq2
                obtain ⟨w32, hw32⟩ : ∃ u, w31.drew = u := ⟨_, rfl⟩
                have HD32 := Lib.hid hw32
                have hb32 : Below w31.heap.size w31 w32 := hw32 ▸ (Below.refl _ w31).drew
                have HB32 : Hid (Below w.heap.size w w32) := HB31.out.trans (hb32.mono HB31.out.size)
                have LM32 : Hid (Boos w32 (.slice (some ⟨bt, ot, none⟩) n23 c23) (tog m N)) := LM31.out.below hb32
                have OD32 : Hid (Done w32 (w2.heap.size + 1) dv2 (ds ++ [N])) := OD31.out.below hb32
                have S32 : Hid (SpBox w32 (w.heap.size) (p) (.slice A n c)) := S31.out.below hb32
                have N32 : Hid (SpBox w32 (w2.heap.size) (p) (.slice (some ⟨bt, ot, none⟩) n23 c23)) := N31.out.below hb32
                clear hw32 hb32
                refine wp_region_R (R := fun x y => Below x.heap.size x y) (by kernel_rfl) (fun _ => Below.refl _ _) (fun h k => h.trans (k.mono h.size)) (by kernel_rfl) (fun d v c a w h => by cases d <;> exact h)
                  [(0, false), (3, false), (1, true), (2, false), (4, true), (5, false)] rfl (by kernel_rfl) (by kernel_rfl) ?_
                simp only [sel, List.getElem?_toArray, List.getElem?_cons_succ, List.getElem?_cons_zero]
                rw [HD32.out]
                refine sch_take (.agg #[.int .i64 p, (.slice (some ⟨bt, ot, none⟩) n23 c23)]) rfl (fun u hu => exec_loadS (SBox.below N32.out hu) Try.underlying24 spInfo _ rfl rfl) ?_
                simp only [Act.put, List.setIfInBounds_toArray, List.set_cons_zero, List.set_cons_succ]
                refine sch_take (.agg #[.int .i64 p, (.slice (some ⟨bt, ot, none⟩) n23 c23)]) rfl (fun u hu => exec_loadS (SBox.below N32.out hu) Try.underlying24 spInfo _ rfl rfl) ?_
                simp only [Act.put, List.setIfInBounds_toArray, List.set_cons_zero, List.set_cons_succ]
                refine sch_call rfl ?_
                intro K hK
                go_simp
                refine (spFree_any w32 p _ (tog m N) LM32.out HML2.out).mono ?_
                rintro e w33 ⟨fv, rfl, hf, hb33⟩
                obtain ⟨Af, nf, cf, rfl, NF, hnf, hcf⟩ := hf.rowz.form
                obtain rfl : nf = q2 := (NF.out.trans (natC_len _)).trans HCM.out
                clear hf NF
                go_wp2_with fail
                refine hK _ _ hb33 ?_
                clear hK K
                have HB33 : Hid (Below w.heap.size w w33) := HB32.out.trans (hb33.mono HB32.out.size)
                have LM33 : Hid (Boos w33 (.slice (some ⟨bt, ot, none⟩) n23 c23) (tog m N)) := LM32.out.below hb33
                have OD33 : Hid (Done w33 (w2.heap.size + 1) dv2 (ds ++ [N])) := OD32.out.below hb33
                have S33 : Hid (SpBox w33 (w.heap.size) (p) (.slice A n c)) := S32.out.below hb33
                have N33 : Hid (SpBox w33 (w2.heap.size) (p) (.slice (some ⟨bt, ot, none⟩) n23 c23)) := N32.out.below hb33
                clear hb33
                (refine sch_take ?_ rfl ?_ ?_; rotate_left; (focus (intro u hu; go_simp <;> rfl)); simp only [Act.put, List.setIfInBounds_toArray, List.set_cons_zero, List.set_cons_succ])
                refine sch_call rfl ?_
                intro K hK
                go_simp
                refine (HCM.out ▸ spCount_any w33 p _ (tog m N) LM33.out HML2.out).mono ?_
                rintro e w34 ⟨rfl, hb34⟩
                go_wp2_with fail
                refine hK _ _ hb34 ?_
                clear hK K
                have HB34 : Hid (Below w.heap.size w w34) := HB33.out.trans (hb34.mono HB33.out.size)
                have LM34 : Hid (Boos w34 (.slice (some ⟨bt, ot, none⟩) n23 c23) (tog m N)) := LM33.out.below hb34
                have OD34 : Hid (Done w34 (w2.heap.size + 1) dv2 (ds ++ [N])) := OD33.out.below hb34
                have S34 : Hid (SpBox w34 (w.heap.size) (p) (.slice A n c)) := S33.out.below hb34
                have N34 : Hid (SpBox w34 (w2.heap.size) (p) (.slice (some ⟨bt, ot, none⟩) n23 c23)) := N33.out.below hb34
                clear hb34
                (refine sch_take (.bool false) rfl ?_ ?_; focus (intro u hu; clear hu; go_simp; done))
                simp only [Act.put, List.setIfInBounds_toArray, List.set_cons_zero, List.set_cons_succ]
                refine sch_nil ?_
                go_wp2_with fail
                go_roundw
                all_goals first
                  | exact ⟨k + 1, _, _, _, _, _, by omega, by push_cast; rfl, by rw [List.length_append]; exact Nat.succ_le_succ HDK.out, ⟨S34.out, N34.out, LM34.out, spOk_tog HMO.out hN3, (undo_app ds HNM.out).trans HUN.out, (fun d hd => (List.mem_append.1 hd).elim (HLO.out d) (fun h => by obtain rfl := List.mem_singleton.1 h; exact ⟨hN3, hNp⟩)), OD34.out, HB34.out, HGT.out⟩⟩
                  | (show zs.length - ((k : Int) + 1).toNat < zs.length - (k : Int).toNat; omega)
              | false =>
                have FC20 : Hid (CellIs w20 bm (om + N) (.bool false)) := ⟨hbm, hcell⟩
                have HUS := Lib.hid (spUse_free HMO.out hmN)
                have HGV := Lib.hid (spGive_free HMO.out hN3 hmN)
                have HCT : Hid (((spFreeC p (tog m N)).length : Int) = (q : Int) - 1) := hq ▸ count_free HMO.out hmN hN3
                have HTN : Hid ((tog m N)[N]'(by rw [tog_len]; exact HNM.out) = true) := by simp [Hid, tog_free hmN]
                clear hbm hcm2 hcell hq hmN hN2
                have pS := S20.out.c0
                have rS := S20.out.c1
                have pN := N20.out.c0
                have rN := N20.out.c1
                have qFC := FC20.out.2
                go_wp2_with fail
                clear pS rS pN rN qFC
                refine (HUS.out ▸ spUse_any w20 p _ m (N : Int) LN20.out HML.out).mono ?_
                rintro e w21 ⟨x21, rfl, hx21, hb21⟩
                obtain ⟨A21, n21, c21, rfl, _, _, _⟩ := hx21.boos.form
                have HB21 : Hid (Below w.heap.size w w21) := HB20.out.trans (hb21.mono HB20.out.size)
                have LN21 : Hid (Boos w21 (.slice (some ⟨bm, om, none⟩) nn cn) m) := LN20.out.below hb21
                have OD21 : Hid (Done w21 (w2.heap.size + 1) dv ds) := OD20.out.below hb21
                have FC21 : Hid (CellIs w21 (bm) (om + N) (.bool false)) := FC20.out.below hb21
                have S21 : Hid (SpBox w21 (w.heap.size) (p) (.slice A n c)) := S20.out.below hb21
                have N21 : Hid (SpBox w21 (w2.heap.size) (p) (.slice (some ⟨bm, om, none⟩) nn cn)) := N20.out.below hb21
                obtain ⟨w22, hw22⟩ : ∃ u, (w21.alloc (.cells #[.int .i64 (p), .slice A21 n21 c21] 24)) = u := ⟨_, rfl⟩
                have HW22 := Lib.hid hw22
                have hb22 : Below w21.heap.size w21 w22 := hw22 ▸ below_new _ _
                have HB22 : Hid (Below w.heap.size w w22) := HB21.out.trans (hb22.mono HB21.out.size)
                have LN22 : Hid (Boos w22 (.slice (some ⟨bm, om, none⟩) nn cn) m) := LN21.out.below hb22
                have OD22 : Hid (Done w22 (w2.heap.size + 1) dv ds) := OD21.out.below hb22
                have FC22 : Hid (CellIs w22 (bm) (om + N) (.bool false)) := FC21.out.below hb22
                have S22 : Hid (SpBox w22 (w.heap.size) (p) (.slice A n c)) := S21.out.below hb22
                have N22 : Hid (SpBox w22 (w2.heap.size) (p) (.slice (some ⟨bm, om, none⟩) nn cn)) := N21.out.below hb22
                have X22 : Hid (SpBox w22 w21.heap.size (p) (.slice A21 n21 c21)) := hw22 ▸ SBox.new w21 24 [.int .i64 (p), .slice A21 n21 c21]
                have LX22 : Hid (Boos w22 (.slice A21 n21 c21) (tog m N)) := hw22 ▸ Rowz.alloc hx21.boos _
                have HDX : Hid (dv.ownBlock ≠ some w21.heap.size) := fun hk => by have := (World.ownsRow.lt OD21.out _ hk).2; omega
                have HEX : Hid (∀ k, (Value.slice A21 n21 c21).ownBlock = some k → dv.ownBlock ≠ some k) := fun k h1 h2 => by have := (World.ownsRow.lt hx21 _ h1).1; have := (World.ownsRow.lt OD20.out _ h2).2; omega
                have HCX : Hid (w2.heap.size < w21.heap.size) := N21.out.lt
                have HNX : Hid ((Value.slice A21 n21 c21).ownBlock ≠ some w2.heap.size) := fun hk => by have := (World.ownsRow.lt hx21 _ hk).1; have := N20.out.lt; omega
                clear hx21 hb21 hw22 hb22
                have pS : (w21.alloc (.cells #[.int .i64 (p), .slice A21 n21 c21] 24)).cell? ⟨w.heap.size, 0, none⟩ = some (.int .i64 (p)) := by rw [HW22.out]; exact S22.out.c0
                have rS : (w21.alloc (.cells #[.int .i64 (p), .slice A21 n21 c21] 24)).cell? ⟨w.heap.size, 1, none⟩ = some (.slice A n c) := by rw [HW22.out]; exact S22.out.c1
                have pN : (w21.alloc (.cells #[.int .i64 (p), .slice A21 n21 c21] 24)).cell? ⟨w2.heap.size, 0, none⟩ = some (.int .i64 (p)) := by rw [HW22.out]; exact N22.out.c0
                have rN : (w21.alloc (.cells #[.int .i64 (p), .slice A21 n21 c21] 24)).cell? ⟨w2.heap.size, 1, none⟩ = some (.slice (some ⟨bm, om, none⟩) nn cn) := by rw [HW22.out]; exact N22.out.c1
                have qFC : (w21.alloc (.cells #[.int .i64 (p), .slice A21 n21 c21] 24)).cell? ⟨bm, om + N, none⟩ = some (.bool false) := by rw [HW22.out]; exact FC22.out.2
                go_wp2_with fail
                rw [HW22.out]
                clear pS rS pN rN qFC
                refine (HGV.out ▸ spGive_any w22 p _ m (N : Int) LN22.out HML.out).mono ?_
                rintro e w23 ⟨x23, rfl, hx23, hb23⟩
                obtain ⟨A23, n23, c23, rfl, _, _, _⟩ := hx23.boos.form
                have HB23 : Hid (Below w.heap.size w w23) := HB22.out.trans (hb23.mono HB22.out.size)
                have LN23 : Hid (Boos w23 (.slice (some ⟨bm, om, none⟩) nn cn) m) := LN22.out.below hb23
                have OD23 : Hid (Done w23 (w2.heap.size + 1) dv ds) := OD22.out.below hb23
                have LX23 : Hid (Boos w23 (.slice A21 n21 c21) (tog m N)) := LX22.out.below hb23
                have FC23 : Hid (CellIs w23 (bm) (om + N) (.bool false)) := FC22.out.below hb23
                have S23 : Hid (SpBox w23 (w.heap.size) (p) (.slice A n c)) := S22.out.below hb23
                have N23 : Hid (SpBox w23 (w2.heap.size) (p) (.slice (some ⟨bm, om, none⟩) nn cn)) := N22.out.below hb23
                have X23 : Hid (SpBox w23 (w21.heap.size) (p) (.slice A21 n21 c21)) := X22.out.below hb23
                obtain ⟨w24, hw24⟩ : ∃ u, (w23.alloc (.cells #[.int .i64 (0), .slice A23 n23 c23] 24)) = u := ⟨_, rfl⟩
                have HW24 := Lib.hid hw24
                have hb24 : Below w23.heap.size w23 w24 := hw24 ▸ below_new _ _
                have HB24 : Hid (Below w.heap.size w w24) := HB23.out.trans (hb24.mono HB23.out.size)
                have LN24 : Hid (Boos w24 (.slice (some ⟨bm, om, none⟩) nn cn) m) := LN23.out.below hb24
                have OD24 : Hid (Done w24 (w2.heap.size + 1) dv ds) := OD23.out.below hb24
                have LX24 : Hid (Boos w24 (.slice A21 n21 c21) (tog m N)) := LX23.out.below hb24
                have FC24 : Hid (CellIs w24 (bm) (om + N) (.bool false)) := FC23.out.below hb24
                have S24 : Hid (SpBox w24 (w.heap.size) (p) (.slice A n c)) := S23.out.below hb24
                have N24 : Hid (SpBox w24 (w2.heap.size) (p) (.slice (some ⟨bm, om, none⟩) nn cn)) := N23.out.below hb24
                have X24 : Hid (SpBox w24 (w21.heap.size) (p) (.slice A21 n21 c21)) := X23.out.below hb24
                have Y24 : Hid (SpBox w24 w23.heap.size (0) (.slice A23 n23 c23)) := hw24 ▸ SBox.new w23 24 [.int .i64 (0), .slice A23 n23 c23]
                have LY24 : Hid (Boos w24 (.slice A23 n23 c23) ([])) := hw24 ▸ Rowz.alloc hx23.boos _
                clear hx23 hb23 hw24 hb24
                have pS : (w23.alloc (.cells #[.int .i64 (0), .slice A23 n23 c23] 24)).cell? ⟨w.heap.size, 0, none⟩ = some (.int .i64 (p)) := by rw [HW24.out]; exact S24.out.c0
                have rS : (w23.alloc (.cells #[.int .i64 (0), .slice A23 n23 c23] 24)).cell? ⟨w.heap.size, 1, none⟩ = some (.slice A n c) := by rw [HW24.out]; exact S24.out.c1
                have pN : (w23.alloc (.cells #[.int .i64 (0), .slice A23 n23 c23] 24)).cell? ⟨w2.heap.size, 0, none⟩ = some (.int .i64 (p)) := by rw [HW24.out]; exact N24.out.c0
                have rN : (w23.alloc (.cells #[.int .i64 (0), .slice A23 n23 c23] 24)).cell? ⟨w2.heap.size, 1, none⟩ = some (.slice (some ⟨bm, om, none⟩) nn cn) := by rw [HW24.out]; exact N24.out.c1
                have pX : (w23.alloc (.cells #[.int .i64 (0), .slice A23 n23 c23] 24)).cell? ⟨w21.heap.size, 0, none⟩ = some (.int .i64 (p)) := by rw [HW24.out]; exact X24.out.c0
                have rX : (w23.alloc (.cells #[.int .i64 (0), .slice A23 n23 c23] 24)).cell? ⟨w21.heap.size, 1, none⟩ = some (.slice A21 n21 c21) := by rw [HW24.out]; exact X24.out.c1
                have qFC : (w23.alloc (.cells #[.int .i64 (0), .slice A23 n23 c23] 24)).cell? ⟨bm, om + N, none⟩ = some (.bool false) := by rw [HW24.out]; exact FC24.out.2
                go_wp2_with fail
                rw [HW24.out]
                clear pS rS pN rN pX rX qFC
                obtain ⟨bt, ot, eat, hbt1, hbt2⟩ := Boos.at LX24.out (show N < (tog m N).length by rw [tog_len]; exact HNM.out)
                cases eat
                have FT24 : Hid (CellIs w24 bt (ot + N) (.bool true)) := ⟨hbt1, by rw [hbt2 N (by rw [tog_len]; exact HNM.out)]; exact congrArg _ (congrArg Value.bool HTN.out)⟩
                clear hbt1 hbt2
                have HIX : Hid (N < n21) := by
                  obtain ⟨A', n', c', e, N', _, _⟩ := Boos.form LX24.out
                  cases e
                  have := N'.out
                  rw [tog_len] at this
                  have := HNM.out
                  show _ < _
                  omega
                obtain ⟨w25, hw25⟩ : ∃ u, w24.drew = u := ⟨_, rfl⟩
                have HD25 := Lib.hid hw25
                have hb25 : Below w24.heap.size w24 w25 := hw25 ▸ (Below.refl _ w24).drew
                have HB25 : Hid (Below w.heap.size w w25) := HB24.out.trans (hb25.mono HB24.out.size)
                have LN25 : Hid (Boos w25 (.slice (some ⟨bm, om, none⟩) nn cn) m) := LN24.out.below hb25
                have OD25 : Hid (Done w25 (w2.heap.size + 1) dv ds) := OD24.out.below hb25
                have LX25 : Hid (Boos w25 (.slice (some ⟨bt, ot, none⟩) n21 c21) (tog m N)) := LX24.out.below hb25
                have LY25 : Hid (Boos w25 (.slice A23 n23 c23) ([])) := LY24.out.below hb25
                have FC25 : Hid (CellIs w25 (bm) (om + N) (.bool false)) := FC24.out.below hb25
                have FT25 : Hid (CellIs w25 (bt) (ot + N) (.bool true)) := FT24.out.below hb25
                have S25 : Hid (SpBox w25 (w.heap.size) (p) (.slice A n c)) := S24.out.below hb25
                have N25 : Hid (SpBox w25 (w2.heap.size) (p) (.slice (some ⟨bm, om, none⟩) nn cn)) := N24.out.below hb25
                have X25 : Hid (SpBox w25 (w21.heap.size) (p) (.slice (some ⟨bt, ot, none⟩) n21 c21)) := X24.out.below hb25
                have Y25 : Hid (SpBox w25 (w23.heap.size) (0) (.slice A23 n23 c23)) := Y24.out.below hb25
                clear hw25 hb25
                refine wp_region_R (R := fun x y => Below x.heap.size x y) (by kernel_rfl) (fun _ => Below.refl _ _) (fun h k => h.trans (k.mono h.size)) (by kernel_rfl) (fun d v c a w h => by cases d <;> exact h)
                  [(0, false), (1, false), (2, false), (3, false), (4, false), (5, false), (6, false), (7, false), (9, false), (8, true), (10, true), (11, false), (12, false), (13, false), (14, false), (15, false), (16, false), (17, false), (18, false), (19, false), (20, false), (21, false)] rfl (by kernel_rfl) (by kernel_rfl) ?_
                simp only [sel, List.getElem?_toArray, List.getElem?_cons_succ, List.getElem?_cons_zero]
                rw [HD25.out]
                iterate 7 (refine sch_take ?_ rfl ?_ ?_; rotate_left; (focus (intro u hu; go_simp <;> rfl)); simp only [Act.put, List.setIfInBounds_toArray, List.set_cons_zero, List.set_cons_succ])
                refine sch_take (.agg #[.int .i64 p, (.slice (some ⟨bt, ot, none⟩) n21 c21)]) rfl (fun u hu => exec_loadS (SBox.below X25.out hu) Try.underlying24 spInfo _ rfl rfl) ?_
                simp only [Act.put, List.setIfInBounds_toArray, List.set_cons_zero, List.set_cons_succ]
                refine sch_take (.agg #[.int .i64 p, (.slice (some ⟨bm, om, none⟩) nn cn)]) rfl (fun u hu => exec_loadS (SBox.below N25.out hu) Try.underlying24 spInfo _ rfl rfl) ?_
                simp only [Act.put, List.setIfInBounds_toArray, List.set_cons_zero, List.set_cons_succ]
                refine sch_call rfl ?_
                intro K hK
                go_simp
                refine (HCT.out ▸ spCount_any w25 p _ (tog m N) LX25.out HML2.out).mono ?_
                rintro e w26 ⟨rfl, hb26⟩
                go_wp2_with fail
                refine hK _ _ hb26 ?_
                clear hK K
                have HB26 : Hid (Below w.heap.size w w26) := HB25.out.trans (hb26.mono HB25.out.size)
                have LN26 : Hid (Boos w26 (.slice (some ⟨bm, om, none⟩) nn cn) m) := LN25.out.below hb26
                have OD26 : Hid (Done w26 (w2.heap.size + 1) dv ds) := OD25.out.below hb26
                have LX26 : Hid (Boos w26 (.slice (some ⟨bt, ot, none⟩) n21 c21) (tog m N)) := LX25.out.below hb26
                have LY26 : Hid (Boos w26 (.slice A23 n23 c23) ([])) := LY25.out.below hb26
                have FC26 : Hid (CellIs w26 (bm) (om + N) (.bool false)) := FC25.out.below hb26
                have FT26 : Hid (CellIs w26 (bt) (ot + N) (.bool true)) := FT25.out.below hb26
                have S26 : Hid (SpBox w26 (w.heap.size) (p) (.slice A n c)) := S25.out.below hb26
                have N26 : Hid (SpBox w26 (w2.heap.size) (p) (.slice (some ⟨bm, om, none⟩) nn cn)) := N25.out.below hb26
                have X26 : Hid (SpBox w26 (w21.heap.size) (p) (.slice (some ⟨bt, ot, none⟩) n21 c21)) := X25.out.below hb26
                have Y26 : Hid (SpBox w26 (w23.heap.size) (0) (.slice A23 n23 c23)) := Y25.out.below hb26
                clear hb26
                refine sch_call rfl ?_
                intro K hK
                go_simp
                refine (HCN.out ▸ spCount_any w26 p _ m LN26.out HML.out).mono ?_
                rintro e w27 ⟨rfl, hb27⟩
                go_wp2_with fail
                refine hK _ _ hb27 ?_
                clear hK K
                have HB27 : Hid (Below w.heap.size w w27) := HB26.out.trans (hb27.mono HB26.out.size)
                have LN27 : Hid (Boos w27 (.slice (some ⟨bm, om, none⟩) nn cn) m) := LN26.out.below hb27
                have OD27 : Hid (Done w27 (w2.heap.size + 1) dv ds) := OD26.out.below hb27
                have LX27 : Hid (Boos w27 (.slice (some ⟨bt, ot, none⟩) n21 c21) (tog m N)) := LX26.out.below hb27
                have LY27 : Hid (Boos w27 (.slice A23 n23 c23) ([])) := LY26.out.below hb27
                have FC27 : Hid (CellIs w27 (bm) (om + N) (.bool false)) := FC26.out.below hb27
                have FT27 : Hid (CellIs w27 (bt) (ot + N) (.bool true)) := FT26.out.below hb27
                have S27 : Hid (SpBox w27 (w.heap.size) (p) (.slice A n c)) := S26.out.below hb27
                have N27 : Hid (SpBox w27 (w2.heap.size) (p) (.slice (some ⟨bm, om, none⟩) nn cn)) := N26.out.below hb27
                have X27 : Hid (SpBox w27 (w21.heap.size) (p) (.slice (some ⟨bt, ot, none⟩) n21 c21)) := X26.out.below hb27
                have Y27 : Hid (SpBox w27 (w23.heap.size) (0) (.slice A23 n23 c23)) := Y26.out.below hb27
                clear hb27
                (refine sch_take ?_ rfl ?_ ?_; rotate_left; (focus (intro u hu; go_simp <;> rfl)); simp only [Act.put, List.setIfInBounds_toArray, List.set_cons_zero, List.set_cons_succ])
                (refine sch_take (.bool false) rfl ?_ ?_; focus (intro u hu; clear hu; have hqb := HQB.out; go_simp; all_goals (rw [IntKind.wrap_i64]; omega)))
                simp only [Act.put, List.setIfInBounds_toArray, List.set_cons_zero, List.set_cons_succ]
                iterate 3 (refine sch_take ?_ rfl ?_ ?_; rotate_left; (focus (intro u hu; go_simp <;> rfl)); simp only [Act.put, List.setIfInBounds_toArray, List.set_cons_zero, List.set_cons_succ])
                (refine sch_take ?_ rfl ?_ ?_; rotate_left; (focus (intro u hu; have c1 := SpBox.c1 (SBox.below X27.out hu); clear hu; go_simp <;> rfl)); simp only [Act.put, List.setIfInBounds_toArray, List.set_cons_zero, List.set_cons_succ])
                (refine sch_take ?_ rfl ?_ ?_; rotate_left; (focus (intro u hu; go_simp <;> rfl)); simp only [Act.put, List.setIfInBounds_toArray, List.set_cons_zero, List.set_cons_succ])
                (refine sch_take ?_ rfl ?_ ?_; rotate_left; (focus (intro u hu; have hNy := HIX.out; go_simp <;> rfl)); simp only [Act.put, List.setIfInBounds_toArray, List.set_cons_zero, List.set_cons_succ])
                (refine sch_take ?_ rfl ?_ ?_; rotate_left; (focus (intro u hu; have cc := (CellIs.below FT27.out hu).2; clear hu; go_simp <;> rfl)); simp only [Act.put, List.setIfInBounds_toArray, List.set_cons_zero, List.set_cons_succ])
                iterate 2 (refine sch_take ?_ rfl ?_ ?_; rotate_left; (focus (intro u hu; go_simp <;> rfl)); simp only [Act.put, List.setIfInBounds_toArray, List.set_cons_zero, List.set_cons_succ])
                refine sch_nil ?_
                go_wp2_with fail
                obtain ⟨w28, hw28⟩ : ∃ u, w27.drew = u := ⟨_, rfl⟩
                have HD28 := Lib.hid hw28
                have hb28 : Below w27.heap.size w27 w28 := hw28 ▸ (Below.refl _ w27).drew
                have HB28 : Hid (Below w.heap.size w w28) := HB27.out.trans (hb28.mono HB27.out.size)
                have LN28 : Hid (Boos w28 (.slice (some ⟨bm, om, none⟩) nn cn) m) := LN27.out.below hb28
                have OD28 : Hid (Done w28 (w2.heap.size + 1) dv ds) := OD27.out.below hb28
                have LX28 : Hid (Boos w28 (.slice (some ⟨bt, ot, none⟩) n21 c21) (tog m N)) := LX27.out.below hb28
                have LY28 : Hid (Boos w28 (.slice A23 n23 c23) ([])) := LY27.out.below hb28
                have FC28 : Hid (CellIs w28 (bm) (om + N) (.bool false)) := FC27.out.below hb28
                have FT28 : Hid (CellIs w28 (bt) (ot + N) (.bool true)) := FT27.out.below hb28
                have S28 : Hid (SpBox w28 (w.heap.size) (p) (.slice A n c)) := S27.out.below hb28
                have N28 : Hid (SpBox w28 (w2.heap.size) (p) (.slice (some ⟨bm, om, none⟩) nn cn)) := N27.out.below hb28
                have X28 : Hid (SpBox w28 (w21.heap.size) (p) (.slice (some ⟨bt, ot, none⟩) n21 c21)) := X27.out.below hb28
                have Y28 : Hid (SpBox w28 (w23.heap.size) (0) (.slice A23 n23 c23)) := Y27.out.below hb28
                clear hw28 hb28
                refine wp_region_R (R := fun x y => y.heap[w21.heap.size]? = x.heap[w21.heap.size]?) (by kernel_rfl) (fun _ => rfl) (fun h k => k.trans h) (by kernel_rfl) (fun d v c a w h => by cases d <;> exact h)
                  [(0, false), (1, false), (2, false), (3, true), (4, true), (5, true), (6, false)] rfl (by kernel_rfl) (by kernel_rfl) ?_
                simp only [sel, List.getElem?_toArray, List.getElem?_cons_succ, List.getElem?_cons_zero]
                rw [HD28.out]
                refine sch_take (.agg #[.int .i64 p, (.slice (some ⟨bt, ot, none⟩) n21 c21)]) rfl (fun u hu => exec_loadS (SBox.same X28.out hu) Try.underlying24 spInfo _ rfl rfl) ?_
                simp only [Act.put, List.setIfInBounds_toArray, List.set_cons_zero, List.set_cons_succ]
                iterate 2 (refine sch_take ?_ rfl ?_ ?_; rotate_left; (focus (intro u hu; go_simp <;> rfl)); simp only [Act.put, List.setIfInBounds_toArray, List.set_cons_zero, List.set_cons_succ])
                refine sch_call rfl ?_
                intro K hK
                go_simp
                refine hK _ _ ((below_new w28 _).block _ X28.out.lt) ?_
                clear hK K
                obtain ⟨w29, hw29⟩ : ∃ u, w28.alloc (.cells #[.int .i64 (N : Int)] 3) = u := ⟨_, rfl⟩
                have hb29 : Below w28.heap.size w28 w29 := hw29 ▸ below_new _ _
                have HRW : Hid (Rowz w29 (.slice (some ⟨w28.heap.size, 0, none⟩) 1 1) (natC [N])) := hw29 ▸ Rowz.lit w28 [.int .i64 (N : Int)] 3 (by simp [maxLen])
                have HB29 : Hid (Below w.heap.size w w29) := HB28.out.trans (hb29.mono HB28.out.size)
                have LN29 : Hid (Boos w29 (.slice (some ⟨bm, om, none⟩) nn cn) m) := LN28.out.below hb29
                have OD29 : Hid (Done w29 (w2.heap.size + 1) dv ds) := OD28.out.below hb29
                have LX29 : Hid (Boos w29 (.slice (some ⟨bt, ot, none⟩) n21 c21) (tog m N)) := LX28.out.below hb29
                have LY29 : Hid (Boos w29 (.slice A23 n23 c23) ([])) := LY28.out.below hb29
                have FC29 : Hid (CellIs w29 (bm) (om + N) (.bool false)) := FC28.out.below hb29
                have FT29 : Hid (CellIs w29 (bt) (ot + N) (.bool true)) := FT28.out.below hb29
                have S29 : Hid (SpBox w29 (w.heap.size) (p) (.slice A n c)) := S28.out.below hb29
                have N29 : Hid (SpBox w29 (w2.heap.size) (p) (.slice (some ⟨bm, om, none⟩) nn cn)) := N28.out.below hb29
                have X29 : Hid (SpBox w29 (w21.heap.size) (p) (.slice (some ⟨bt, ot, none⟩) n21 c21)) := X28.out.below hb29
                have Y29 : Hid (SpBox w29 (w23.heap.size) (0) (.slice A23 n23 c23)) := Y28.out.below hb29
                rw [hw29]
                clear hw29 hb29
                try simp only [Act.put, List.setIfInBounds_toArray, List.set_cons_zero, List.set_cons_succ]
                refine sch_call rfl ?_
                intro K hK
                obtain ⟨i0, hi0, hz0, hz1, hz2⟩ := HI0.out
                refine wp_appV (.tmp 87) (.tmp 89) _ rfl (w2.heap.size + 1) 3 8 i0 _ Try.underlying34 hi0 hz0 hz1 hz2 rfl _ (natC ds) rfl OD29.out _ (natC [N]) rfl HRW.out (natC_one _) (by have := HDK.out; have := HZ6.out; simp only [natC_len, List.length_cons, List.length_nil]; omega) (by have := HDK.out; have := HZ6.out; simp only [natC_len, List.length_cons, List.length_nil, maxLen]; omega) N29.out.lt ?_
                intro dv2 w30 ho hg hat
                refine hK _ _ (hg.block _ X29.out.lt (fun e => HDX.out (by first | exact e | exact e.symm))) ?_
                clear hK K hat hi0 hz0 hz1 hz2 i0
                have S30 : Hid (SpBox w30 w.heap.size p (.slice A n c)) := SBox.grownO S29.out hg (fun e => by have := (World.ownsRow.lt OD29.out _ e).1; have := HGT.out; omega)
                have N30 : Hid (SpBox w30 w2.heap.size p (.slice (some ⟨bm, om, none⟩) nn cn)) := SBox.grownO N29.out hg (fun e => by have := (World.ownsRow.lt OD29.out _ e).1; omega)
                have X30 := Lib.hid (SBox.grownO X29.out hg HDX.out)
                have LM30 : Hid (Boos w30 (.slice (some ⟨bt, ot, none⟩) n21 c21) (tog m N)) := Rowz.grownO LX29.out hg HEX.out
                have HB30 : Hid (Below w.heap.size w w30) := HB29.out.grown hg HB29.out.size (fun k hk => by have := (World.ownsRow.lt OD29.out _ hk).1; have := HGT.out; omega)
                have OD30 : Hid (Done w30 (w2.heap.size + 1) dv2 (ds ++ [N])) := by rw [Hid, Done, natC_app]; exact ho
                clear ho hg
                simp only [Act.put, List.setIfInBounds_toArray, List.set_cons_zero, List.set_cons_succ]
                refine sch_call rfl ?_
                intro K hK
                refine wp_storeS1 N30.out spInfo (.tmp 5) (.tmp 86) rfl rfl (ds := [.int .i64 p, (.slice (some ⟨bt, ot, none⟩) n21 c21)]) rfl rfl (one_sp _ _ _ _) ?_
                intro w31 hs hg hz
                refine hK _ _ (hg.block _ X30.out.lt (fun e => by have h1 := HCX.out; first | (injection e with e; omega) | (have := e; simp at this; omega))) ?_
                clear hK K hz
                have S31 : Hid (SpBox w31 w.heap.size p (.slice A n c)) := S30.out.grown hg (by have := HGT.out; omega)
                have N31 := Lib.hid hs
                have LM31 : Hid (Boos w31 (.slice (some ⟨bt, ot, none⟩) n21 c21) (tog m N)) := Rowz.grown LM30.out hg (fun j hj e => HNX.out (by rw [hj, e]))
                have HB31 : Hid (Below w.heap.size w w31) := HB30.out.grown hg HB30.out.size (fun j e => by cases e; have := HGT.out; omega)
                have OD31 : Hid (Done w31 (w2.heap.size + 1) dv2 (ds ++ [N])) := World.ownsRow.kept OD30.out hg (.inr (fun e => by have := (World.ownsRow.lt OD30.out _ e).1; omega))
                clear hs hg
                simp only [Act.put, List.setIfInBounds_toArray, List.set_cons_zero, List.set_cons_succ]
                (refine sch_take ?_ rfl ?_ ?_; rotate_left; (focus (intro u hu; go_simp <;> rfl)); simp only [Act.put, List.setIfInBounds_toArray, List.set_cons_zero, List.set_cons_succ])
                refine sch_nil ?_
                go_wp2_with fail
                obtain ⟨q2, hq2⟩ : ∃ q2, (spFreeC p (tog m N)).length = q2 := ⟨_, rfl⟩
                have HCM := Lib.hid hq2
                clear hq2
                obtain ⟨w32, hw32⟩ : ∃ u, w31.drew = u := ⟨_, rfl⟩
                have HD32 := Lib.hid hw32
                have hb32 : Below w31.heap.size w31 w32 := hw32 ▸ (Below.refl _ w31).drew
                have HB32 : Hid (Below w.heap.size w w32) := HB31.out.trans (hb32.mono HB31.out.size)
                have LM32 : Hid (Boos w32 (.slice (some ⟨bt, ot, none⟩) n21 c21) (tog m N)) := LM31.out.below hb32
                have OD32 : Hid (Done w32 (w2.heap.size + 1) dv2 (ds ++ [N])) := OD31.out.below hb32
                have S32 : Hid (SpBox w32 (w.heap.size) (p) (.slice A n c)) := S31.out.below hb32
                have N32 : Hid (SpBox w32 (w2.heap.size) (p) (.slice (some ⟨bt, ot, none⟩) n21 c21)) := N31.out.below hb32
                clear hw32 hb32
                refine wp_region_R (R := fun x y => Below x.heap.size x y) (by kernel_rfl) (fun _ => Below.refl _ _) (fun h k => h.trans (k.mono h.size)) (by kernel_rfl) (fun d v c a w h => by cases d <;> exact h)
                  [(0, false), (3, false), (1, true), (2, false), (4, true), (5, false)] rfl (by kernel_rfl) (by kernel_rfl) ?_
                simp only [sel, List.getElem?_toArray, List.getElem?_cons_succ, List.getElem?_cons_zero]
                rw [HD32.out]
                refine sch_take (.agg #[.int .i64 p, (.slice (some ⟨bt, ot, none⟩) n21 c21)]) rfl (fun u hu => exec_loadS (SBox.below N32.out hu) Try.underlying24 spInfo _ rfl rfl) ?_
                simp only [Act.put, List.setIfInBounds_toArray, List.set_cons_zero, List.set_cons_succ]
                refine sch_take (.agg #[.int .i64 p, (.slice (some ⟨bt, ot, none⟩) n21 c21)]) rfl (fun u hu => exec_loadS (SBox.below N32.out hu) Try.underlying24 spInfo _ rfl rfl) ?_
                simp only [Act.put, List.setIfInBounds_toArray, List.set_cons_zero, List.set_cons_succ]
                refine sch_call rfl ?_
                intro K hK
                go_simp
                refine (spFree_any w32 p _ (tog m N) LM32.out HML2.out).mono ?_
                rintro e w33 ⟨fv, rfl, hf, hb33⟩
                obtain ⟨Af, nf, cf, rfl, NF, hnf, hcf⟩ := hf.rowz.form
                obtain rfl : nf = q2 := (NF.out.trans (natC_len _)).trans HCM.out
                clear hf NF
                go_wp2_with fail
                refine hK _ _ hb33 ?_
                clear hK K
                have HB33 : Hid (Below w.heap.size w w33) := HB32.out.trans (hb33.mono HB32.out.size)
                have LM33 : Hid (Boos w33 (.slice (some ⟨bt, ot, none⟩) n21 c21) (tog m N)) := LM32.out.below hb33
                have OD33 : Hid (Done w33 (w2.heap.size + 1) dv2 (ds ++ [N])) := OD32.out.below hb33
                have S33 : Hid (SpBox w33 (w.heap.size) (p) (.slice A n c)) := S32.out.below hb33
                have N33 : Hid (SpBox w33 (w2.heap.size) (p) (.slice (some ⟨bt, ot, none⟩) n21 c21)) := N32.out.below hb33
                clear hb33
                (refine sch_take ?_ rfl ?_ ?_; rotate_left; (focus (intro u hu; go_simp <;> rfl)); simp only [Act.put, List.setIfInBounds_toArray, List.set_cons_zero, List.set_cons_succ])
                refine sch_call rfl ?_
                intro K hK
                go_simp
                refine (HCM.out ▸ spCount_any w33 p _ (tog m N) LM33.out HML2.out).mono ?_
                rintro e w34 ⟨rfl, hb34⟩
                go_wp2_with fail
                refine hK _ _ hb34 ?_
                clear hK K
                have HB34 : Hid (Below w.heap.size w w34) := HB33.out.trans (hb34.mono HB33.out.size)
                have LM34 : Hid (Boos w34 (.slice (some ⟨bt, ot, none⟩) n21 c21) (tog m N)) := LM33.out.below hb34
                have OD34 : Hid (Done w34 (w2.heap.size + 1) dv2 (ds ++ [N])) := OD33.out.below hb34
                have S34 : Hid (SpBox w34 (w.heap.size) (p) (.slice A n c)) := S33.out.below hb34
                have N34 : Hid (SpBox w34 (w2.heap.size) (p) (.slice (some ⟨bt, ot, none⟩) n21 c21)) := N33.out.below hb34
                clear hb34
                (refine sch_take (.bool false) rfl ?_ ?_; focus (intro u hu; clear hu; go_simp; done))
                simp only [Act.put, List.setIfInBounds_toArray, List.set_cons_zero, List.set_cons_succ]
                refine sch_nil ?_
                go_wp2_with fail
                go_roundw
                all_goals first
                  | exact ⟨k + 1, _, _, _, _, _, by omega, by push_cast; rfl, by rw [List.length_append]; exact Nat.succ_le_succ HDK.out, ⟨S34.out, N34.out, LM34.out, spOk_tog HMO.out hN3, (undo_app ds HNM.out).trans HUN.out, (fun d hd => (List.mem_append.1 hd).elim (HLO.out d) (fun h => by obtain rfl := List.mem_singleton.1 h; exact ⟨hN3, hNp⟩)), OD34.out, HB34.out, HGT.out⟩⟩
                  | (show zs.length - ((k : Int) + 1).toNat < zs.length - (k : Int).toNat; omega)
          · have hok2 := HLO.out
            clear hok2
            have hat := HAT.out
            have hdk := HDK.out
            have hkz : ¬ (k : Int) < (nz : Int) := by omega
            clear S20 N20 LN20 OD20 HB20 LS20 LZ20 HMO HML HUN hnn
            obtain ⟨Ad, nd, cd, rfl, ND, hnd, hcd⟩ := (OwnV.rowz hat.own).form
            have HND : Hid (nd = ds.length) := ND.out.trans (natC_len ds)
            have HA2 : Hid (BkAt w w2.heap.size p l A n c m An nn cn ds (.slice Ad nd cd) nd wr) := ⟨hat.s, hat.now, hat.lm, hat.ok, by rw [List.take_of_length_le (show ds.length ≤ nd from Nat.le_of_eq HND.out.symm)]; exact hat.un, hat.own, hat.bel⟩
            have hnd6 : nd ≤ 60 := by have := HZ6.out; have := HND.out; omega
            clear hat hdk hnz ND HAT
            go_wp2_with fail
            go_loopw [14] (fun i u => BkRel w w2.heap.size p l A n c ds (.slice Ad nd cd) i u) (fun i _ => (intOf i + 1).toNat)
            case atStart => exact bk_mk (Nat.le_of_eq HND.out) HA2.out
            case round =>
              clear HA2
              rcases hrel with ⟨m, An, nn, cn, rfl, hbk⟩ | ⟨j, m, An, nn, cn, hj, rfl, hbk⟩
              · obtain ⟨w20, hw20⟩ : ∃ u, u = wr := ⟨_, rfl⟩
                subst hw20
                have hml : m = l := by have := hbk.un; rwa [List.take_zero, undo_nil] at this
                have S20 := Lib.hid hbk.s
                have N20 := Lib.hid hbk.now
                have LN20 : Hid (Boos w20 (.slice An nn cn) l) := hml ▸ hbk.lm
                have HB20 := Lib.hid hbk.bel
                have LS20 : Hid (Boos w20 (.slice A n c) l) := HVW.out.below HB20.out
                clear hml hbk
                have pS := S20.out.c0
                have rS := S20.out.c1
                have pN := N20.out.c0
                have rN := N20.out.c1
                go_wp2_with fail
                clear pS rS pN rN
                refine (dec_same p l ▸ spsame_any w20 p p _ _ l l LN20.out LS20.out).mono ?_
                rintro e w21 ⟨rfl, hb21⟩
                have HB21 : Hid (Below w.heap.size w w21) := HB20.out.trans (hb21.mono HB20.out.size)
                have LS21 : Hid (Boos w21 (.slice A n c) l) := LS20.out.below hb21
                have LN21 : Hid (Boos w21 (.slice An nn cn) l) := LN20.out.below hb21
                have S21 : Hid (SpBox w21 (w.heap.size) (p) (.slice A n c)) := S20.out.below hb21
                have N21 : Hid (SpBox w21 (w2.heap.size) (p) (.slice An nn cn)) := N20.out.below hb21
                clear hb21
                have pS := S21.out.c0
                have rS := S21.out.c1
                have pN := N21.out.c0
                have rN := N21.out.c1
                go_wp2_with fail
                clear pS rS pN rN
                go_ret
                exact ⟨rfl, HB21.out⟩
              · have hnw := (Below.refl wr.heap.size wr).drew
                obtain ⟨w20, hw20⟩ : ∃ u, wr.drew = u := ⟨_, rfl⟩
                have HD20 := Lib.hid hw20
                rw [hw20] at hnw
                have S20 : Hid (SpBox w20 w.heap.size p (.slice A n c)) := SBox.below hbk.s hnw
                have N20 : Hid (SpBox w20 w2.heap.size p (.slice An nn cn)) := SBox.below hbk.now hnw
                have LN20 : Hid (Boos w20 (.slice An nn cn) m) := hbk.lm.below hnw
                have OD0 : Done w20 (w2.heap.size + 1) (.slice Ad nd cd) ds := hbk.own.below hnw
                have HB20 : Hid (Below w.heap.size w w20) := hw20 ▸ hbk.bel.drew
                have HMO := Lib.hid hbk.ok
                have hm8 := spOk_len hbk.ok
                have HML : Hid (m.length ≤ 70368744177664) := show m.length ≤ 70368744177664 by omega
                obtain ⟨bd, od, rfl, hbd, hcd2⟩ := (OwnV.rowz OD0).at (k := j) (by rw [natC_len]; exact hj)
                obtain ⟨x, hx⟩ : ∃ x, x = ds[j] := ⟨_, rfl⟩
                have CD20 : Hid (CellIs w20 bd (od + j) (.int .i64 (x : Int))) := ⟨hbd, by rw [hcd2 j (by rw [natC_len]; exact hj), natC_getAt, ← hx]⟩
                have OD20 := Lib.hid OD0
                have hxl := HLO.out x (by rw [hx]; exact List.getElem_mem hj)
                have HX2 : Hid (2 ≤ x) := hxl.1
                have htk : ds.take (j + 1) = ds.take j ++ [x] := by
                  rw [hx]
                  first | exact (List.take_append_getElem hj).symm | exact List.take_succ_eq_append_getElem hj | (rw [List.take_add_one, List.getElem?_eq_getElem hj]; rfl)
                have HUD : Hid (undo (tog m x) (ds.take j) = l) := by have := hbk.un; rwa [htk, undo_last] at this
                clear htk
                have hxm : x < m.length := by omega
                have hmx : m[x]? = some m[x] := List.getElem?_eq_getElem hxm
                generalize m[x] = b at hmx
                have hjn : (j : Int) < (nd : Int) := by have := HND.out; omega
                have hj0 : (0 : Int) ≤ (j : Int) := by omega
                clear hbk hnw hw20 OD0 hbd hcd2 hx hm8 hxl hxm
                cases b with
                | true =>
                  have HUS := Lib.hid (spUse_used HMO.out hmx)
                  have HGV := Lib.hid (spGive_used HMO.out HX2.out hmx)
                  clear hmx
                  go_wp2_with fail
                  refine wp_region_L (R := fun x y => Below w20.heap.size x y) (by kernel_rfl) (fun _ => Below.refl _ _) (fun h k => h.trans k) (by kernel_rfl) (fun d v c a w h => by cases d <;> exact h)
                    [(0, false), (1, false), (2, false), (3, false), (4, false)] 7 rfl (by kernel_rfl) (by kernel_rfl) (fun _ _ h => h) ?_
                  simp only [sel, List.getElem?_toArray, List.getElem?_cons_succ, List.getElem?_cons_zero]
                  rw [HD20.out]
                  refine schL_take (.agg #[.int .i64 p, (.slice An nn cn)]) rfl (fun u hu => exec_loadS (SBox.below N20.out hu) Try.underlying24 spInfo _ rfl rfl) ?_
                  simp only [Act.put, List.setIfInBounds_toArray, List.set_cons_zero, List.set_cons_succ]
                  iterate 3 (refine schL_take ?_ rfl ?_ ?_; rotate_left; (focus (intro u hu; go_simp <;> rfl)); simp only [Act.put, List.setIfInBounds_toArray, List.set_cons_zero, List.set_cons_succ])
                  (refine schL_take ?_ rfl ?_ ?_; rotate_left; (focus (intro u hu; have cc := (CellIs.below CD20.out hu).2; clear hu; go_simp <;> rfl)); simp only [Act.put, List.setIfInBounds_toArray, List.set_cons_zero, List.set_cons_succ])
                  refine schL_nil ?_
                  refine held_fork (R := fun x y => Below w20.heap.size x y) (fun h k => h.trans k) (i := 5) (j := 9) (by kernel_rfl) rfl rfl rfl rfl ?_ ?_
                  · intro K hK
                    go_simp
                    refine (HUS.out ▸ spUse_any w20 p _ m (x : Int) LN20.out HML.out).mono ?_
                    rintro e w21 ⟨x21, rfl, hx21, hb21⟩
                    obtain ⟨A21, n21, c21, rfl, _, _, _⟩ := hx21.boos.form
                    go_wp2_with fail
                    refine hK _ _ hb21 ?_
                    clear hK K
                    refine held_of_sch (R := fun x y => Below w20.heap.size x y) (fun _ => Below.refl _ _) (fun h k => h.trans k) (by kernel_rfl) (fun d v c a w h => by cases d <;> exact h) [(6, false), (7, false), (8, false), (9, true), (10, true), (11, false)] _ _ _ (by kernel_rfl) (by kernel_rfl) ?_
                    simp only [sel, List.getElem?_toArray, List.getElem?_cons_succ, List.getElem?_cons_zero]
                    iterate 3 (refine sch_take ?_ rfl ?_ ?_; rotate_left; (focus (intro u hu; go_simp <;> rfl)); simp only [Act.put, List.setIfInBounds_toArray, List.set_cons_zero, List.set_cons_succ])
                    refine sch_call rfl ?_
                    intro K hK
                    go_simp
                    refine hK _ _ ((below_new _ _).mono hb21.size) ?_
                    clear hK K
                    try simp only [Act.put, List.setIfInBounds_toArray, List.set_cons_zero, List.set_cons_succ]
                    refine sch_call rfl ?_
                    intro K hK
                    refine wp_storeS1 (SBox.new w21 24 [.int .i64 0, .slice none 0 0]) spInfo (.tmp 15) (.tmp 148) rfl rfl (ds := [.int .i64 (0), .slice A21 n21 c21]) rfl rfl (one_sp _ _ _ _) ?_
                    intro w23 hs hg hz
                    have hbn : Below w20.heap.size (w21.alloc (.cells #[.int .i64 0, .slice none 0 0] 24)) w23 := (Below.refl _ _).grown hg (by have := hb21.size; simp only [World.size_alloc]; omega) (fun k e => by cases e; exact hb21.size)
                    refine hK _ _ hbn ?_
                    clear hK K
                    have hb23 : Below w20.heap.size w20 w23 := (hb21.trans ((below_new _ _).mono hb21.size)).trans hbn
                    have hx23 : Boos w23 (.slice A21 n21 c21) [] := Rowz.grown (Rowz.alloc hx21.boos _) hg (fun k hk e => by have := (World.ownsRow.lt hx21 _ hk).2; omega)
                    have HNX : Hid (∀ j, (Value.slice A21 n21 c21).ownBlock = some j → j ≠ w2.heap.size) := fun j hj e => by have := (World.ownsRow.lt hx21 _ hj).1; have := N20.out.lt; omega
                    have hbx : w20.heap.size ≤ w21.heap.size := hb21.size
                    obtain ⟨bx, hbe⟩ : ∃ bx, w21.heap.size = bx := ⟨_, rfl⟩
                    rw [hbe] at hs hbx
                    simp only [Act.put, List.setIfInBounds_toArray, List.set_cons_zero, List.set_cons_succ]
                    rw [hbe]
                    iterate 1 (refine sch_take ?_ rfl ?_ ?_; rotate_left; (focus (intro u hu; go_simp <;> rfl)); simp only [Act.put, List.setIfInBounds_toArray, List.set_cons_zero, List.set_cons_succ])
                    refine sch_nil ?_
                    have HDX : Hid ((Value.slice (some ⟨bd, od, none⟩) nd cd).ownBlock ≠ some bx) := fun hk => by have := (World.ownsRow.lt OD20.out _ hk).2; omega
                    have HXN : Hid (w2.heap.size < bx) := by have := N20.out.lt; show _ < _; omega
                    have HBXS : Hid (w20.heap.size ≤ bx) := hbx
                    have HB23 : Hid (Below w.heap.size w w23) := HB20.out.trans (hb23.mono HB20.out.size)
                    have LN23 : Hid (Boos w23 (.slice An nn cn) m) := LN20.out.below hb23
                    have OD23 : Hid (Done w23 (w2.heap.size + 1) (.slice (some ⟨bd, od, none⟩) nd cd) ds) := OD20.out.below hb23
                    have CD23 : Hid (CellIs w23 (bd) (od + j) (.int .i64 (x : Int))) := CD20.out.below hb23
                    have S23 : Hid (SpBox w23 (w.heap.size) (p) (.slice A n c)) := S20.out.below hb23
                    have N23 : Hid (SpBox w23 (w2.heap.size) (p) (.slice An nn cn)) := N20.out.below hb23
                    have X23 : Hid (SpBox w23 bx (0) (.slice A21 n21 c21)) := hs
                    have LX23 : Hid (Boos w23 (.slice A21 n21 c21) []) := hx23
                    clear hs hg hz hbn hb23 hx23 hx21 hb21 hbx hbe
                    have pS := S23.out.c0
                    have rS := S23.out.c1
                    have pN := N23.out.c0
                    have rN := N23.out.c1
                    have pX := X23.out.c0
                    have rX := X23.out.c1
                    have qCD := CD23.out.2
                    go_wp2_with fail
                    clear pS rS pN rN pX rX qCD
                    obtain ⟨w24, hw24⟩ : ∃ u, w23.drew = u := ⟨_, rfl⟩
                    have HD24 := Lib.hid hw24
                    have hb24 : Below w23.heap.size w23 w24 := hw24 ▸ (Below.refl _ w23).drew
                    have HB24 : Hid (Below w.heap.size w w24) := HB23.out.trans (hb24.mono HB23.out.size)
                    have LN24 : Hid (Boos w24 (.slice An nn cn) m) := LN23.out.below hb24
                    have OD24 : Hid (Done w24 (w2.heap.size + 1) (.slice (some ⟨bd, od, none⟩) nd cd) ds) := OD23.out.below hb24
                    have LX24 : Hid (Boos w24 (.slice A21 n21 c21) []) := LX23.out.below hb24
                    have CD24 : Hid (CellIs w24 (bd) (od + j) (.int .i64 (x : Int))) := CD23.out.below hb24
                    have S24 : Hid (SpBox w24 (w.heap.size) (p) (.slice A n c)) := S23.out.below hb24
                    have N24 : Hid (SpBox w24 (w2.heap.size) (p) (.slice An nn cn)) := N23.out.below hb24
                    have X24 : Hid (SpBox w24 (bx) (0) (.slice A21 n21 c21)) := X23.out.below hb24
                    clear hw24 hb24
                    have HXD : Hid (bd < w20.heap.size) := CD20.out.1
                    refine wp_region_R (R := fun x y => y.heap[w2.heap.size]? = x.heap[w2.heap.size]? ∧ y.heap[bd]? = x.heap[bd]?) (by kernel_rfl) (fun _ => ⟨rfl, rfl⟩) (fun h k => ⟨k.1.trans h.1, k.2.trans h.2⟩) (by kernel_rfl) (fun d v c a w h => by cases d <;> exact h)
                      [(0, false), (1, false), (2, false), (3, false), (4, false), (5, true), (6, false), (7, false), (8, false), (9, true), (10, false)] rfl (by kernel_rfl) (by kernel_rfl) ?_
                    simp only [sel, List.getElem?_toArray, List.getElem?_cons_succ, List.getElem?_cons_zero]
                    rw [HD24.out]
                    refine sch_take (.agg #[.int .i64 p, (.slice An nn cn)]) rfl (fun u hu => exec_loadS (SBox.same N24.out hu.1) Try.underlying24 spInfo _ rfl rfl) ?_
                    simp only [Act.put, List.setIfInBounds_toArray, List.set_cons_zero, List.set_cons_succ]
                    iterate 3 (refine sch_take ?_ rfl ?_ ?_; rotate_left; (focus (intro u hu; go_simp <;> rfl)); simp only [Act.put, List.setIfInBounds_toArray, List.set_cons_zero, List.set_cons_succ])
                    (refine sch_take ?_ rfl ?_ ?_; rotate_left; (focus (intro u hu; have cc := (World.cell?_of_block (a := ⟨bd, od + j, none⟩) hu.2).trans CD24.out.2; clear hu; go_simp <;> rfl)); simp only [Act.put, List.setIfInBounds_toArray, List.set_cons_zero, List.set_cons_succ])
                    refine sch_call rfl ?_
                    intro K hK
                    go_simp
                    refine (HGV.out ▸ spGive_any w24 p _ m (x : Int) LN24.out HML.out).mono ?_
                    rintro e w25 ⟨x25, rfl, hx25, hb25⟩
                    obtain ⟨A25, n25, c25, rfl, _, _, _⟩ := hx25.boos.form
                    go_wp2_with fail
                    refine hK _ _ ⟨hb25.block _ N24.out.lt, hb25.block _ CD24.out.1⟩ ?_
                    clear hK K
                    have LY25 := Lib.hid hx25
                    have HNX : Hid (∀ j, (Value.slice A25 n25 c25).ownBlock = some j → j ≠ w2.heap.size) := fun j hj e => by have := (World.ownsRow.lt hx25 _ hj).1; have := N24.out.lt; omega
                    have HB25 : Hid (Below w.heap.size w w25) := HB24.out.trans (hb25.mono HB24.out.size)
                    have LN25 : Hid (Boos w25 (.slice An nn cn) m) := LN24.out.below hb25
                    have OD25 : Hid (Done w25 (w2.heap.size + 1) (.slice (some ⟨bd, od, none⟩) nd cd) ds) := OD24.out.below hb25
                    have LX25 : Hid (Boos w25 (.slice A21 n21 c21) []) := LX24.out.below hb25
                    have CD25 : Hid (CellIs w25 (bd) (od + j) (.int .i64 (x : Int))) := CD24.out.below hb25
                    have S25 : Hid (SpBox w25 (w.heap.size) (p) (.slice A n c)) := S24.out.below hb25
                    have N25 : Hid (SpBox w25 (w2.heap.size) (p) (.slice An nn cn)) := N24.out.below hb25
                    have X25 : Hid (SpBox w25 (bx) (0) (.slice A21 n21 c21)) := X24.out.below hb25
                    clear hx25 hb25
                    iterate 3 (refine sch_take ?_ rfl ?_ ?_; rotate_left; (focus (intro u hu; go_simp <;> rfl)); simp only [Act.put, List.setIfInBounds_toArray, List.set_cons_zero, List.set_cons_succ])
                    refine sch_call rfl ?_
                    intro K hK
                    refine wp_storeS1 X25.out spInfo (.tmp 15) (.tmp 159) rfl rfl (ds := [.int .i64 p, .slice A25 n25 c25]) rfl rfl (one_sp _ _ _ _) ?_
                    intro w26 hs hg hz
                    refine hK _ _ ⟨hg.block _ N25.out.lt (by have := HXN.out; simp; omega), hg.block _ CD25.out.1 (by have := HBXS.out; have := HXD.out; simp; omega)⟩ ?_
                    clear hK K
                    have S26 : Hid (SpBox w26 w.heap.size p (.slice A n c)) := S25.out.grown hg (by have := HXN.out; have := HGT.out; omega)
                    have N26 : Hid (SpBox w26 w2.heap.size p (.slice An nn cn)) := N25.out.grown hg (by have := HXN.out; omega)
                    have X26 : Hid (SpBox w26 bx p (.slice A25 n25 c25)) := hs
                    have LX26 : Hid (Boos w26 (.slice A25 n25 c25) (tog m x)) := Rowz.grown LY25.out.boos hg (fun k hk e => by have := (World.ownsRow.lt LY25.out _ hk).1; have := X24.out.lt; omega)
                    have OD26 : Hid (Done w26 (w2.heap.size + 1) (.slice (some ⟨bd, od, none⟩) nd cd) ds) := World.ownsRow.kept OD25.out hg (.inr HDX.out)
                    have HB26 : Hid (Below w.heap.size w w26) := HB25.out.grown hg HB25.out.size (fun j e => by cases e; have := HXN.out; have := HGT.out; omega)
                    clear hs hg hz
                    simp only [Act.put, List.setIfInBounds_toArray, List.set_cons_zero, List.set_cons_succ]
                    (refine sch_take ?_ rfl ?_ ?_; rotate_left; (focus (intro u hu; go_simp <;> rfl)); simp only [Act.put, List.setIfInBounds_toArray, List.set_cons_zero, List.set_cons_succ])
                    refine sch_nil ?_
                    have pS := S26.out.c0
                    have rS := S26.out.c1
                    have pN := N26.out.c0
                    have rN := N26.out.c1
                    have pX := X26.out.c0
                    have rX := X26.out.c1
                    go_wp2_with (refine wpList_storeS N26.out spInfo rfl _ _ rfl rfl (ds := [.int .i64 p, (.slice A25 n25 c25)]) rfl rfl (one_sp _ _ _ _) ?_; intro w30 hs hg hz; have S30 : Hid (SpBox w30 w.heap.size p (.slice A n c)) := S26.out.grown hg (by have := HGT.out; omega); have N30 := Lib.hid hs; have LM30 : Hid (Boos w30 (.slice A25 n25 c25) (tog m x)) := Rowz.grown LX26.out hg HNX.out; have OD30 : Hid (Done w30 (w2.heap.size + 1) (.slice (some ⟨bd, od, none⟩) nd cd) ds) := World.ownsRow.kept OD26.out hg (.inr (fun e => by have := (World.ownsRow.lt OD26.out _ e).1; omega)); have HB30 : Hid (Below w.heap.size w w30) := HB26.out.grown hg HB26.out.size (fun j e => by cases e; have := HGT.out; omega); clear hs hg hz)
                    go_roundw
                    clear pS rS pN rN pX rX
                    all_goals first
                      | exact bk_mk (j := j) (by omega) ⟨S30.out, N30.out, LM30.out, spOk_tog HMO.out HX2.out, HUD.out, OD30.out, HB30.out⟩
                      | (show ((j : Int) - 1 + 1).toNat < ((j : Int) + 1).toNat; omega)
                  · intro K hK
                    go_simp
                    refine hK _ _ (below_new _ _) ?_
                    clear hK K
                    try simp only [Act.put, List.setIfInBounds_toArray, List.set_cons_zero, List.set_cons_succ]
                    obtain ⟨w22, hw22⟩ : ∃ u, w20.alloc (.cells #[.int .i64 0, .slice none 0 0] 24) = u := ⟨_, rfl⟩
                    rw [hw22]
                    have hb22 : Below w20.heap.size w20 w22 := hw22 ▸ below_new w20 _
                    have hx22 : SpBox w22 w20.heap.size 0 (.slice none 0 0) := hw22 ▸ SBox.new w20 24 [.int .i64 0, .slice none 0 0]
                    have LN22 : Hid (Boos w22 (.slice An nn cn) m) := LN20.out.below hb22
                    clear hw22
                    refine held_of_sch (R := fun x y => Below w20.heap.size x y) (fun _ => Below.refl _ _) (fun h k => h.trans k) (by kernel_rfl) (fun d v c a w h => by cases d <;> exact h) [(5, true), (6, false), (7, false), (8, false), (10, true), (11, false)] _ _ _ (by kernel_rfl) (by kernel_rfl) ?_
                    simp only [sel, List.getElem?_toArray, List.getElem?_cons_succ, List.getElem?_cons_zero]
                    refine sch_call rfl ?_
                    intro K hK
                    go_simp
                    refine (HUS.out ▸ spUse_any w22 p _ m (x : Int) LN22.out HML.out).mono ?_
                    rintro e w21 ⟨x21, rfl, hx21, hb21⟩
                    obtain ⟨A21, n21, c21, rfl, _, _, _⟩ := hx21.boos.form
                    go_wp2_with fail
                    refine hK _ _ (hb21.mono hb22.size) ?_
                    clear hK K
                    iterate 3 (refine sch_take ?_ rfl ?_ ?_; rotate_left; (focus (intro u hu; go_simp <;> rfl)); simp only [Act.put, List.setIfInBounds_toArray, List.set_cons_zero, List.set_cons_succ])
                    refine sch_call rfl ?_
                    intro K hK
                    refine wp_storeS1 (SBox.below hx22 hb21) spInfo (.tmp 15) (.tmp 148) rfl rfl (ds := [.int .i64 (0), .slice A21 n21 c21]) rfl rfl (one_sp _ _ _ _) ?_
                    intro w23 hs hg hz
                    have hbn : Below w20.heap.size w21 w23 := (Below.refl _ _).grown hg (Nat.le_trans hb22.size hb21.size) (fun k e => by cases e; exact Nat.le_refl _)
                    refine hK _ _ hbn ?_
                    clear hK K
                    have hb23 : Below w20.heap.size w20 w23 := (hb22.trans (hb21.mono hb22.size)).trans hbn
                    have hx23 : Boos w23 (.slice A21 n21 c21) [] := Rowz.grown hx21.boos hg (fun k hk e => by have := (World.ownsRow.lt hx21 _ hk).1; have := hx22.lt; omega)
                    have HNX : Hid (∀ j, (Value.slice A21 n21 c21).ownBlock = some j → j ≠ w2.heap.size) := fun j hj e => by have := (World.ownsRow.lt hx21 _ hj).1; have := N20.out.lt; have := hb22.size; omega
                    obtain ⟨bx, hbe⟩ : ∃ bx, w20.heap.size = bx := ⟨_, rfl⟩
                    rw [hbe] at hs
                    have hbx : w20.heap.size ≤ bx := by omega
                    clear hx22 hb22
                    simp only [Act.put, List.setIfInBounds_toArray, List.set_cons_zero, List.set_cons_succ]
                    rw [hbe]
                    iterate 1 (refine sch_take ?_ rfl ?_ ?_; rotate_left; (focus (intro u hu; go_simp <;> rfl)); simp only [Act.put, List.setIfInBounds_toArray, List.set_cons_zero, List.set_cons_succ])
                    refine sch_nil ?_
                    have HDX : Hid ((Value.slice (some ⟨bd, od, none⟩) nd cd).ownBlock ≠ some bx) := fun hk => by have := (World.ownsRow.lt OD20.out _ hk).2; omega
                    have HXN : Hid (w2.heap.size < bx) := by have := N20.out.lt; show _ < _; omega
                    have HBXS : Hid (w20.heap.size ≤ bx) := hbx
                    have HB23 : Hid (Below w.heap.size w w23) := HB20.out.trans (hb23.mono HB20.out.size)
                    have LN23 : Hid (Boos w23 (.slice An nn cn) m) := LN20.out.below hb23
                    have OD23 : Hid (Done w23 (w2.heap.size + 1) (.slice (some ⟨bd, od, none⟩) nd cd) ds) := OD20.out.below hb23
                    have CD23 : Hid (CellIs w23 (bd) (od + j) (.int .i64 (x : Int))) := CD20.out.below hb23
                    have S23 : Hid (SpBox w23 (w.heap.size) (p) (.slice A n c)) := S20.out.below hb23
                    have N23 : Hid (SpBox w23 (w2.heap.size) (p) (.slice An nn cn)) := N20.out.below hb23
                    have X23 : Hid (SpBox w23 bx (0) (.slice A21 n21 c21)) := hs
                    have LX23 : Hid (Boos w23 (.slice A21 n21 c21) []) := hx23
                    clear hs hg hz hbn hb23 hx23 hx21 hb21 hbx hbe
                    have pS := S23.out.c0
                    have rS := S23.out.c1
                    have pN := N23.out.c0
                    have rN := N23.out.c1
                    have pX := X23.out.c0
                    have rX := X23.out.c1
                    have qCD := CD23.out.2
                    go_wp2_with fail
                    clear pS rS pN rN pX rX qCD
                    obtain ⟨w24, hw24⟩ : ∃ u, w23.drew = u := ⟨_, rfl⟩
                    have HD24 := Lib.hid hw24
                    have hb24 : Below w23.heap.size w23 w24 := hw24 ▸ (Below.refl _ w23).drew
                    have HB24 : Hid (Below w.heap.size w w24) := HB23.out.trans (hb24.mono HB23.out.size)
                    have LN24 : Hid (Boos w24 (.slice An nn cn) m) := LN23.out.below hb24
                    have OD24 : Hid (Done w24 (w2.heap.size + 1) (.slice (some ⟨bd, od, none⟩) nd cd) ds) := OD23.out.below hb24
                    have LX24 : Hid (Boos w24 (.slice A21 n21 c21) []) := LX23.out.below hb24
                    have CD24 : Hid (CellIs w24 (bd) (od + j) (.int .i64 (x : Int))) := CD23.out.below hb24
                    have S24 : Hid (SpBox w24 (w.heap.size) (p) (.slice A n c)) := S23.out.below hb24
                    have N24 : Hid (SpBox w24 (w2.heap.size) (p) (.slice An nn cn)) := N23.out.below hb24
                    have X24 : Hid (SpBox w24 (bx) (0) (.slice A21 n21 c21)) := X23.out.below hb24
                    clear hw24 hb24
                    have HXD : Hid (bd < w20.heap.size) := CD20.out.1
                    refine wp_region_R (R := fun x y => y.heap[w2.heap.size]? = x.heap[w2.heap.size]? ∧ y.heap[bd]? = x.heap[bd]?) (by kernel_rfl) (fun _ => ⟨rfl, rfl⟩) (fun h k => ⟨k.1.trans h.1, k.2.trans h.2⟩) (by kernel_rfl) (fun d v c a w h => by cases d <;> exact h)
                      [(0, false), (1, false), (2, false), (3, false), (4, false), (5, true), (6, false), (7, false), (8, false), (9, true), (10, false)] rfl (by kernel_rfl) (by kernel_rfl) ?_
                    simp only [sel, List.getElem?_toArray, List.getElem?_cons_succ, List.getElem?_cons_zero]
                    rw [HD24.out]
                    refine sch_take (.agg #[.int .i64 p, (.slice An nn cn)]) rfl (fun u hu => exec_loadS (SBox.same N24.out hu.1) Try.underlying24 spInfo _ rfl rfl) ?_
                    simp only [Act.put, List.setIfInBounds_toArray, List.set_cons_zero, List.set_cons_succ]
                    iterate 3 (refine sch_take ?_ rfl ?_ ?_; rotate_left; (focus (intro u hu; go_simp <;> rfl)); simp only [Act.put, List.setIfInBounds_toArray, List.set_cons_zero, List.set_cons_succ])
                    (refine sch_take ?_ rfl ?_ ?_; rotate_left; (focus (intro u hu; have cc := (World.cell?_of_block (a := ⟨bd, od + j, none⟩) hu.2).trans CD24.out.2; clear hu; go_simp <;> rfl)); simp only [Act.put, List.setIfInBounds_toArray, List.set_cons_zero, List.set_cons_succ])
                    refine sch_call rfl ?_
                    intro K hK
                    go_simp
                    refine (HGV.out ▸ spGive_any w24 p _ m (x : Int) LN24.out HML.out).mono ?_
                    rintro e w25 ⟨x25, rfl, hx25, hb25⟩
                    obtain ⟨A25, n25, c25, rfl, _, _, _⟩ := hx25.boos.form
                    go_wp2_with fail
                    refine hK _ _ ⟨hb25.block _ N24.out.lt, hb25.block _ CD24.out.1⟩ ?_
                    clear hK K
                    have LY25 := Lib.hid hx25
                    have HNX : Hid (∀ j, (Value.slice A25 n25 c25).ownBlock = some j → j ≠ w2.heap.size) := fun j hj e => by have := (World.ownsRow.lt hx25 _ hj).1; have := N24.out.lt; omega
                    have HB25 : Hid (Below w.heap.size w w25) := HB24.out.trans (hb25.mono HB24.out.size)
                    have LN25 : Hid (Boos w25 (.slice An nn cn) m) := LN24.out.below hb25
                    have OD25 : Hid (Done w25 (w2.heap.size + 1) (.slice (some ⟨bd, od, none⟩) nd cd) ds) := OD24.out.below hb25
                    have LX25 : Hid (Boos w25 (.slice A21 n21 c21) []) := LX24.out.below hb25
                    have CD25 : Hid (CellIs w25 (bd) (od + j) (.int .i64 (x : Int))) := CD24.out.below hb25
                    have S25 : Hid (SpBox w25 (w.heap.size) (p) (.slice A n c)) := S24.out.below hb25
                    have N25 : Hid (SpBox w25 (w2.heap.size) (p) (.slice An nn cn)) := N24.out.below hb25
                    have X25 : Hid (SpBox w25 (bx) (0) (.slice A21 n21 c21)) := X24.out.below hb25
                    clear hx25 hb25
                    iterate 3 (refine sch_take ?_ rfl ?_ ?_; rotate_left; (focus (intro u hu; go_simp <;> rfl)); simp only [Act.put, List.setIfInBounds_toArray, List.set_cons_zero, List.set_cons_succ])
                    refine sch_call rfl ?_
                    intro K hK
                    refine wp_storeS1 X25.out spInfo (.tmp 15) (.tmp 159) rfl rfl (ds := [.int .i64 p, .slice A25 n25 c25]) rfl rfl (one_sp _ _ _ _) ?_
                    intro w26 hs hg hz
                    refine hK _ _ ⟨hg.block _ N25.out.lt (by have := HXN.out; simp; omega), hg.block _ CD25.out.1 (by have := HBXS.out; have := HXD.out; simp; omega)⟩ ?_
                    clear hK K
                    have S26 : Hid (SpBox w26 w.heap.size p (.slice A n c)) := S25.out.grown hg (by have := HXN.out; have := HGT.out; omega)
                    have N26 : Hid (SpBox w26 w2.heap.size p (.slice An nn cn)) := N25.out.grown hg (by have := HXN.out; omega)
                    have X26 : Hid (SpBox w26 bx p (.slice A25 n25 c25)) := hs
                    have LX26 : Hid (Boos w26 (.slice A25 n25 c25) (tog m x)) := Rowz.grown LY25.out.boos hg (fun k hk e => by have := (World.ownsRow.lt LY25.out _ hk).1; have := X24.out.lt; omega)
                    have OD26 : Hid (Done w26 (w2.heap.size + 1) (.slice (some ⟨bd, od, none⟩) nd cd) ds) := World.ownsRow.kept OD25.out hg (.inr HDX.out)
                    have HB26 : Hid (Below w.heap.size w w26) := HB25.out.grown hg HB25.out.size (fun j e => by cases e; have := HXN.out; have := HGT.out; omega)
                    clear hs hg hz
                    simp only [Act.put, List.setIfInBounds_toArray, List.set_cons_zero, List.set_cons_succ]
                    (refine sch_take ?_ rfl ?_ ?_; rotate_left; (focus (intro u hu; go_simp <;> rfl)); simp only [Act.put, List.setIfInBounds_toArray, List.set_cons_zero, List.set_cons_succ])
                    refine sch_nil ?_
                    have pS := S26.out.c0
                    have rS := S26.out.c1
                    have pN := N26.out.c0
                    have rN := N26.out.c1
                    have pX := X26.out.c0
                    have rX := X26.out.c1
                    go_wp2_with (refine wpList_storeS N26.out spInfo rfl _ _ rfl rfl (ds := [.int .i64 p, (.slice A25 n25 c25)]) rfl rfl (one_sp _ _ _ _) ?_; intro w30 hs hg hz; have S30 : Hid (SpBox w30 w.heap.size p (.slice A n c)) := S26.out.grown hg (by have := HGT.out; omega); have N30 := Lib.hid hs; have LM30 : Hid (Boos w30 (.slice A25 n25 c25) (tog m x)) := Rowz.grown LX26.out hg HNX.out; have OD30 : Hid (Done w30 (w2.heap.size + 1) (.slice (some ⟨bd, od, none⟩) nd cd) ds) := World.ownsRow.kept OD26.out hg (.inr (fun e => by have := (World.ownsRow.lt OD26.out _ e).1; omega)); have HB30 : Hid (Below w.heap.size w w30) := HB26.out.grown hg HB26.out.size (fun j e => by cases e; have := HGT.out; omega); clear hs hg hz)
                    go_roundw
                    clear pS rS pN rN pX rX
                    all_goals first
                      | exact bk_mk (j := j) (by omega) ⟨S30.out, N30.out, LM30.out, spOk_tog HMO.out HX2.out, HUD.out, OD30.out, HB30.out⟩
                      | (show ((j : Int) - 1 + 1).toNat < ((j : Int) + 1).toNat; omega)
                | false =>
                  have HUS := Lib.hid (spUse_free HMO.out hmx)
                  clear hmx
                  go_wp2_with fail
                  refine wp_region_L (R := fun x y => Below w20.heap.size x y) (by kernel_rfl) (fun _ => Below.refl _ _) (fun h k => h.trans k) (by kernel_rfl) (fun d v c a w h => by cases d <;> exact h)
                    [(0, false), (1, false), (2, false), (3, false), (4, false)] 7 rfl (by kernel_rfl) (by kernel_rfl) (fun _ _ h => h) ?_
                  simp only [sel, List.getElem?_toArray, List.getElem?_cons_succ, List.getElem?_cons_zero]
                  rw [HD20.out]
                  refine schL_take (.agg #[.int .i64 p, (.slice An nn cn)]) rfl (fun u hu => exec_loadS (SBox.below N20.out hu) Try.underlying24 spInfo _ rfl rfl) ?_
                  simp only [Act.put, List.setIfInBounds_toArray, List.set_cons_zero, List.set_cons_succ]
                  iterate 3 (refine schL_take ?_ rfl ?_ ?_; rotate_left; (focus (intro u hu; go_simp <;> rfl)); simp only [Act.put, List.setIfInBounds_toArray, List.set_cons_zero, List.set_cons_succ])
                  (refine schL_take ?_ rfl ?_ ?_; rotate_left; (focus (intro u hu; have cc := (CellIs.below CD20.out hu).2; clear hu; go_simp <;> rfl)); simp only [Act.put, List.setIfInBounds_toArray, List.set_cons_zero, List.set_cons_succ])
                  refine schL_nil ?_
                  refine held_fork (R := fun x y => Below w20.heap.size x y) (fun h k => h.trans k) (i := 5) (j := 9) (by kernel_rfl) rfl rfl rfl rfl ?_ ?_
                  · intro K hK
                    go_simp
                    refine (HUS.out ▸ spUse_any w20 p _ m (x : Int) LN20.out HML.out).mono ?_
                    rintro e w21 ⟨x21, rfl, hx21, hb21⟩
                    obtain ⟨A21, n21, c21, rfl, _, _, _⟩ := hx21.boos.form
                    go_wp2_with fail
                    refine hK _ _ hb21 ?_
                    clear hK K
                    refine held_of_sch (R := fun x y => Below w20.heap.size x y) (fun _ => Below.refl _ _) (fun h k => h.trans k) (by kernel_rfl) (fun d v c a w h => by cases d <;> exact h) [(6, false), (7, false), (8, false), (9, true), (10, true), (11, false)] _ _ _ (by kernel_rfl) (by kernel_rfl) ?_
                    simp only [sel, List.getElem?_toArray, List.getElem?_cons_succ, List.getElem?_cons_zero]
                    iterate 3 (refine sch_take ?_ rfl ?_ ?_; rotate_left; (focus (intro u hu; go_simp <;> rfl)); simp only [Act.put, List.setIfInBounds_toArray, List.set_cons_zero, List.set_cons_succ])
                    refine sch_call rfl ?_
                    intro K hK
                    go_simp
                    refine hK _ _ ((below_new _ _).mono hb21.size) ?_
                    clear hK K
                    try simp only [Act.put, List.setIfInBounds_toArray, List.set_cons_zero, List.set_cons_succ]
                    refine sch_call rfl ?_
                    intro K hK
                    refine wp_storeS1 (SBox.new w21 24 [.int .i64 0, .slice none 0 0]) spInfo (.tmp 15) (.tmp 148) rfl rfl (ds := [.int .i64 (p), .slice A21 n21 c21]) rfl rfl (one_sp _ _ _ _) ?_
                    intro w23 hs hg hz
                    have hbn : Below w20.heap.size (w21.alloc (.cells #[.int .i64 0, .slice none 0 0] 24)) w23 := (Below.refl _ _).grown hg (by have := hb21.size; simp only [World.size_alloc]; omega) (fun k e => by cases e; exact hb21.size)
                    refine hK _ _ hbn ?_
                    clear hK K
                    have hb23 : Below w20.heap.size w20 w23 := (hb21.trans ((below_new _ _).mono hb21.size)).trans hbn
                    have hx23 : Boos w23 (.slice A21 n21 c21) (tog m x) := Rowz.grown (Rowz.alloc hx21.boos _) hg (fun k hk e => by have := (World.ownsRow.lt hx21 _ hk).2; omega)
                    have HNX : Hid (∀ j, (Value.slice A21 n21 c21).ownBlock = some j → j ≠ w2.heap.size) := fun j hj e => by have := (World.ownsRow.lt hx21 _ hj).1; have := N20.out.lt; omega
                    have hbx : w20.heap.size ≤ w21.heap.size := hb21.size
                    obtain ⟨bx, hbe⟩ : ∃ bx, w21.heap.size = bx := ⟨_, rfl⟩
                    rw [hbe] at hs hbx
                    simp only [Act.put, List.setIfInBounds_toArray, List.set_cons_zero, List.set_cons_succ]
                    rw [hbe]
                    iterate 1 (refine sch_take ?_ rfl ?_ ?_; rotate_left; (focus (intro u hu; go_simp <;> rfl)); simp only [Act.put, List.setIfInBounds_toArray, List.set_cons_zero, List.set_cons_succ])
                    refine sch_nil ?_
                    have HDX : Hid ((Value.slice (some ⟨bd, od, none⟩) nd cd).ownBlock ≠ some bx) := fun hk => by have := (World.ownsRow.lt OD20.out _ hk).2; omega
                    have HXN : Hid (w2.heap.size < bx) := by have := N20.out.lt; show _ < _; omega
                    have HBXS : Hid (w20.heap.size ≤ bx) := hbx
                    have HB23 : Hid (Below w.heap.size w w23) := HB20.out.trans (hb23.mono HB20.out.size)
                    have LN23 : Hid (Boos w23 (.slice An nn cn) m) := LN20.out.below hb23
                    have OD23 : Hid (Done w23 (w2.heap.size + 1) (.slice (some ⟨bd, od, none⟩) nd cd) ds) := OD20.out.below hb23
                    have CD23 : Hid (CellIs w23 (bd) (od + j) (.int .i64 (x : Int))) := CD20.out.below hb23
                    have S23 : Hid (SpBox w23 (w.heap.size) (p) (.slice A n c)) := S20.out.below hb23
                    have N23 : Hid (SpBox w23 (w2.heap.size) (p) (.slice An nn cn)) := N20.out.below hb23
                    have X23 : Hid (SpBox w23 bx (p) (.slice A21 n21 c21)) := hs
                    have LX23 : Hid (Boos w23 (.slice A21 n21 c21) (tog m x)) := hx23
                    clear hs hg hz hbn hb23 hx23 hx21 hb21 hbx hbe
                    have pS := S23.out.c0
                    have rS := S23.out.c1
                    have pN := N23.out.c0
                    have rN := N23.out.c1
                    have pX := X23.out.c0
                    have rX := X23.out.c1
                    have qCD := CD23.out.2
                    go_wp2_with (refine wpList_storeS N23.out spInfo rfl _ _ rfl rfl (ds := [.int .i64 p, (.slice A21 n21 c21)]) rfl rfl (one_sp _ _ _ _) ?_; intro w30 hs hg hz; have S30 : Hid (SpBox w30 w.heap.size p (.slice A n c)) := S23.out.grown hg (by have := HGT.out; omega); have N30 := Lib.hid hs; have LM30 : Hid (Boos w30 (.slice A21 n21 c21) (tog m x)) := Rowz.grown LX23.out hg HNX.out; have OD30 : Hid (Done w30 (w2.heap.size + 1) (.slice (some ⟨bd, od, none⟩) nd cd) ds) := World.ownsRow.kept OD23.out hg (.inr (fun e => by have := (World.ownsRow.lt OD23.out _ e).1; omega)); have HB30 : Hid (Below w.heap.size w w30) := HB23.out.grown hg HB23.out.size (fun j e => by cases e; have := HGT.out; omega); clear hs hg hz)
                    go_roundw
                    clear pS rS pN rN pX rX qCD
                    all_goals first
                      | exact bk_mk (j := j) (by omega) ⟨S30.out, N30.out, LM30.out, spOk_tog HMO.out HX2.out, HUD.out, OD30.out, HB30.out⟩
                      | (show ((j : Int) - 1 + 1).toNat < ((j : Int) + 1).toNat; omega)
                  · intro K hK
                    go_simp
                    refine hK _ _ (below_new _ _) ?_
                    clear hK K
                    try simp only [Act.put, List.setIfInBounds_toArray, List.set_cons_zero, List.set_cons_succ]
                    obtain ⟨w22, hw22⟩ : ∃ u, w20.alloc (.cells #[.int .i64 0, .slice none 0 0] 24) = u := ⟨_, rfl⟩
                    rw [hw22]
                    have hb22 : Below w20.heap.size w20 w22 := hw22 ▸ below_new w20 _
                    have hx22 : SpBox w22 w20.heap.size 0 (.slice none 0 0) := hw22 ▸ SBox.new w20 24 [.int .i64 0, .slice none 0 0]
                    have LN22 : Hid (Boos w22 (.slice An nn cn) m) := LN20.out.below hb22
                    clear hw22
                    refine held_of_sch (R := fun x y => Below w20.heap.size x y) (fun _ => Below.refl _ _) (fun h k => h.trans k) (by kernel_rfl) (fun d v c a w h => by cases d <;> exact h) [(5, true), (6, false), (7, false), (8, false), (10, true), (11, false)] _ _ _ (by kernel_rfl) (by kernel_rfl) ?_
                    simp only [sel, List.getElem?_toArray, List.getElem?_cons_succ, List.getElem?_cons_zero]
                    refine sch_call rfl ?_
                    intro K hK
                    go_simp
                    refine (HUS.out ▸ spUse_any w22 p _ m (x : Int) LN22.out HML.out).mono ?_
                    rintro e w21 ⟨x21, rfl, hx21, hb21⟩
                    obtain ⟨A21, n21, c21, rfl, _, _, _⟩ := hx21.boos.form
                    go_wp2_with fail
                    refine hK _ _ (hb21.mono hb22.size) ?_
                    clear hK K
                    iterate 3 (refine sch_take ?_ rfl ?_ ?_; rotate_left; (focus (intro u hu; go_simp <;> rfl)); simp only [Act.put, List.setIfInBounds_toArray, List.set_cons_zero, List.set_cons_succ])
                    refine sch_call rfl ?_
                    intro K hK
                    refine wp_storeS1 (SBox.below hx22 hb21) spInfo (.tmp 15) (.tmp 148) rfl rfl (ds := [.int .i64 (p), .slice A21 n21 c21]) rfl rfl (one_sp _ _ _ _) ?_
                    intro w23 hs hg hz
                    have hbn : Below w20.heap.size w21 w23 := (Below.refl _ _).grown hg (Nat.le_trans hb22.size hb21.size) (fun k e => by cases e; exact Nat.le_refl _)
                    refine hK _ _ hbn ?_
                    clear hK K
                    have hb23 : Below w20.heap.size w20 w23 := (hb22.trans (hb21.mono hb22.size)).trans hbn
                    have hx23 : Boos w23 (.slice A21 n21 c21) (tog m x) := Rowz.grown hx21.boos hg (fun k hk e => by have := (World.ownsRow.lt hx21 _ hk).1; have := hx22.lt; omega)
                    have HNX : Hid (∀ j, (Value.slice A21 n21 c21).ownBlock = some j → j ≠ w2.heap.size) := fun j hj e => by have := (World.ownsRow.lt hx21 _ hj).1; have := N20.out.lt; have := hb22.size; omega
                    obtain ⟨bx, hbe⟩ : ∃ bx, w20.heap.size = bx := ⟨_, rfl⟩
                    rw [hbe] at hs
                    have hbx : w20.heap.size ≤ bx := by omega
                    clear hx22 hb22
                    simp only [Act.put, List.setIfInBounds_toArray, List.set_cons_zero, List.set_cons_succ]
                    rw [hbe]
                    iterate 1 (refine sch_take ?_ rfl ?_ ?_; rotate_left; (focus (intro u hu; go_simp <;> rfl)); simp only [Act.put, List.setIfInBounds_toArray, List.set_cons_zero, List.set_cons_succ])
                    refine sch_nil ?_
                    have HDX : Hid ((Value.slice (some ⟨bd, od, none⟩) nd cd).ownBlock ≠ some bx) := fun hk => by have := (World.ownsRow.lt OD20.out _ hk).2; omega
                    have HXN : Hid (w2.heap.size < bx) := by have := N20.out.lt; show _ < _; omega
                    have HBXS : Hid (w20.heap.size ≤ bx) := hbx
                    have HB23 : Hid (Below w.heap.size w w23) := HB20.out.trans (hb23.mono HB20.out.size)
                    have LN23 : Hid (Boos w23 (.slice An nn cn) m) := LN20.out.below hb23
                    have OD23 : Hid (Done w23 (w2.heap.size + 1) (.slice (some ⟨bd, od, none⟩) nd cd) ds) := OD20.out.below hb23
                    have CD23 : Hid (CellIs w23 (bd) (od + j) (.int .i64 (x : Int))) := CD20.out.below hb23
                    have S23 : Hid (SpBox w23 (w.heap.size) (p) (.slice A n c)) := S20.out.below hb23
                    have N23 : Hid (SpBox w23 (w2.heap.size) (p) (.slice An nn cn)) := N20.out.below hb23
                    have X23 : Hid (SpBox w23 bx (p) (.slice A21 n21 c21)) := hs
                    have LX23 : Hid (Boos w23 (.slice A21 n21 c21) (tog m x)) := hx23
                    clear hs hg hz hbn hb23 hx23 hx21 hb21 hbx hbe
                    have pS := S23.out.c0
                    have rS := S23.out.c1
                    have pN := N23.out.c0
                    have rN := N23.out.c1
                    have pX := X23.out.c0
                    have rX := X23.out.c1
                    have qCD := CD23.out.2
                    go_wp2_with (refine wpList_storeS N23.out spInfo rfl _ _ rfl rfl (ds := [.int .i64 p, (.slice A21 n21 c21)]) rfl rfl (one_sp _ _ _ _) ?_; intro w30 hs hg hz; have S30 : Hid (SpBox w30 w.heap.size p (.slice A n c)) := S23.out.grown hg (by have := HGT.out; omega); have N30 := Lib.hid hs; have LM30 : Hid (Boos w30 (.slice A21 n21 c21) (tog m x)) := Rowz.grown LX23.out hg HNX.out; have OD30 : Hid (Done w30 (w2.heap.size + 1) (.slice (some ⟨bd, od, none⟩) nd cd) ds) := World.ownsRow.kept OD23.out hg (.inr (fun e => by have := (World.ownsRow.lt OD23.out _ e).1; omega)); have HB30 : Hid (Below w.heap.size w w30) := HB23.out.grown hg HB23.out.size (fun j e => by cases e; have := HGT.out; omega); clear hs hg hz)
                    go_roundw
                    clear pS rS pN rN pX rX qCD
                    all_goals first
                      | exact bk_mk (j := j) (by omega) ⟨S30.out, N30.out, LM30.out, spOk_tog HMO.out HX2.out, HUD.out, OD30.out, HB30.out⟩
                      | (show ((j : Int) - 1 + 1).toNat < ((j : Int) + 1).toNat; omega)
      · have HCS : Hid ((if spOk p l then (0 : Int) else 2) = 2) := if_neg hok
        clear hok
        go_enter Try.func7, Try.ntmps7
        go_wp2_with fail
        rw [HW0.out]
        refine (lives8_any w0).mono ?_
        rintro e w1 ⟨rfl, hb1⟩
        have HB1 : Hid (Below w.heap.size w w1) := HB0.out.trans (hb1.mono HB0.out.size)
        have LS1 : Hid (Boos w1 (.slice A n c) l) := LS0.out.below hb1
        have LZ1 : Hid (Rowz w1 (.slice Az nz cz) (intC zs)) := LZ0.out.below hb1
        have S1 : Hid (SpBox w1 (w.heap.size) (p) (.slice A n c)) := S0.out.below hb1
        clear hb1
        have pS := S1.out.c0
        have rS := S1.out.c1
        go_wp2_with fail
        clear pS rS
        refine (HCS.out ▸ spcheck_any w1 p _ l LS1.out HLL.out).mono ?_
        rintro e w2 ⟨rfl, hb2⟩
        have HB2 : Hid (Below w.heap.size w w2) := HB1.out.trans (hb2.mono HB1.out.size)
        have LS2 : Hid (Boos w2 (.slice A n c) l) := LS1.out.below hb2
        have LZ2 : Hid (Rowz w2 (.slice Az nz cz) (intC zs)) := LZ1.out.below hb2
        have S2 : Hid (SpBox w2 (w.heap.size) (p) (.slice A n c)) := S1.out.below hb2
        clear hb2
        have pS := S2.out.c0
        have rS := S2.out.c1
        go_wp2_with fail
        clear pS rS
        go_ret
        exact ⟨rfl, HB2.out⟩

set_option maxRecDepth 100000 in
theorem lifted (os : Os) (started : os.Started) (H : Type) (enc : TypeId × Value → H) :
    ReturnsInHanded {} Try.checked os 7 .any (Rows.spaceCountsSpec.pre6 enc Try.prog Try.f7 Rows.spaceCountsRow.domain false) (Rows.spaceCountsSpec.post enc Try.prog Try.f7 false true false false) := by
  refine returnsInHanded_of_change (C := Try.checked) ownKnobs started (by kernel_rfl) Try.func7
    (ChangeSpec.witness6 (enc := enc) (C := Try.checked) false ⟨#[], #[.agg #[.int .i64 0, .slice none 0 0], .slice none 0 0], []⟩ 8 (by kernel_rfl) (by kernel_rfl) (by kernel_rfl) (by kernel_rfl)) ?_
  intro W base args ds gs before hval0 hW hcnd _
  have hval : ∀ (j : Nat) t v, Try.f7.params[j]? = some t → args[j]? = some v → Value.okWide Try.prog W .any base t v := hval0
  have hW' := hW
  obtain ⟨p, q, hA0, hV, rfl, hfz, hnd⟩ := hW
  have hA : DataW.TrodAll enc Try.prog W 0 (fun _ => true) true Try.f7.params.toList args.toList ds p := hA0
  rw [Try.params7] at hA hval
  obtain ⟨v0, vs0, d0, ds0, p0, q0, hargs, rfl, rfl, h0, r0⟩ := trodAll_cons hA
  obtain ⟨v1, vs1, d1, ds1, p1, q1, rfl, rfl, rfl, h1, r1⟩ := trodAll_cons r0
  obtain ⟨rfl, rfl, rfl⟩ := trodAll_nil r1
  obtain rfl : args = #[v0, v1] := by cases args; simp_all
  obtain ⟨rfl, rfl⟩ := trodVars_none hV
  have k0 := h0
  have lt0 : ∀ x ∈ p0, x.block < W.heap.size := by obtain ⟨m, hm⟩ := k0; exact DataW.trod_lt m _ _ _ hm
  obtain ⟨sp0, sv0, sl0, rfl, b0, sb0⟩ := open_space (hval 0 24 v0 rfl rfl) h0
  have k1 := h1
  have lt1 : ∀ x ∈ p1, x.block < W.heap.size := by obtain ⟨m, hm⟩ := k1; exact DataW.trod_lt m _ _ _ hm
  obtain ⟨l1, b1⟩ := open_introw (hval 1 34 v1 rfl rfl) h1
  clear hA0 hval0
  refine (walk W sp0 sv0 sl0 v1 l1 b0 sb0 b1).mono fun e W' ⟨he, bel⟩ => ?_
  subst he
  exact ⟨_, rfl, _, _, _, [], _, [], hW', trodAll_mk1 (shut_bool Try.underlying4 _), (trodAll_cons_mk (Below.trod laidOuts (by kernel_rfl) (of_decide_eq_true (by kernel_rfl)) k0 bel lt0) (trodAll_cons_mk (Below.trod laidOuts (by kernel_rfl) (of_decide_eq_true (by kernel_rfl)) k1 bel lt1) trodAll_mk0)), rfl, bel.frame _, fun h => by cases h⟩

theorem over : Rows.spaceCountsRow.holds Try.pinned (OpenSpec.ofChange Rows.spaceCountsSpec) :=
  OpenClaim.holds_of_wide 7 Try.f7 rfl rfl rfl rfl rfl rfl rfl ⟨rfl, rfl, rfl, rfl, rfl⟩ rfl rfl rfl rfl rfl (by kernel_rfl) Try.func7 (by kernel_rfl)
    (of_decide_eq_true (by kernel_rfl)) (by unfold Func.isWrapper; first | (rw [if_pos (by decide +kernel)]; kernel_rfl) | (rw [if_neg (by decide +kernel)]; exact ⟨rfl, rfl⟩))
    (fun os started H enc _ => lifted os started H enc)

theorem proved : Rows.SpaceCountsSaid := over
#print axioms proved
end Go.Proofs.Ytncjobeahpjnpaa.spaceCounts

